/- GraphSteps: a graph in rows of one's own, apart from one another. -/
import Derived.Test.YtncimddgkgclpaaStp
import Derived.Test.YtncimddgkgclpaaSha
namespace Go.Proofs.Ytncimddgkgclpaa
open Go.RowKit
set_option linter.unusedVariables false
set_option linter.unusedSimpArgs false
set_option linter.unusedSectionVars false

/-- a row of numbers of one's own -/
def RowAt (w : World) (lo : Nat) (g : Option Addr) (c : Nat) (l : List Int) (b : Nat) : Prop :=
  l.length ≤ c ∧ l.length ≤ 9223372036854775807 ∧ (l ≠ [] → g = some ⟨b, 0, none⟩ ∧ lo ≤ b ∧ ∃ a : Array Value, w.heap[b]? = some (.cells a 3 (0, 0)) ∧ ∀ i (h : i < l.length), a[i]? = some (.int .i64 l[i]))
/-- rows apart from one another -/
def RowsX (w : World) (lo : Nat) (D : Nat → Prop) (G : Nat → Option Addr) (C : Nat → Nat) (P : Nat → List Int) : Prop :=
  ∃ B : Nat → Nat, (∀ k, D k → RowAt w lo (G k) (C k) (P k) (B k)) ∧ ∀ a b, D a → D b → P a ≠ [] → P b ≠ [] → B a = B b → a = b
/-- rows of numbers stay -/
def Keep3 (w w' : World) : Prop := ∀ (k : Nat) (a : Array Value) (f : Nat × Nat), w.heap[k]? = some (.cells a 3 f) → w'.heap[k]? = some (.cells a 3 f)
theorem Keep3.ky {base : Nat} {T : List Nat} {w w' : World} (K : Ky base (fun _ => False) T w w') (h : 3 ∉ T) : Keep3 w w' := fun k a f e => K.keep k a 3 f e h id
theorem Keep3.later {w w' : World} (B : Below w.heap.size w w') : Keep3 w w' := fun k a f e => (B.block k (Array.getElem?_eq_some_iff.1 e).1).trans e
theorem Keep3.trans {a b c : World} (h : Keep3 a b) (k : Keep3 b c) : Keep3 a c := fun q x f e => k q x f (h q x f e)
section
variable {w w' : World} {lo : Nat} {D : Nat → Prop} {G : Nat → Option Addr} {C : Nat → Nat} {P : Nat → List Int}
theorem RowAt.keep {g : Option Addr} {c b : Nat} {l : List Int} (h : RowAt w lo g c l b) (K : Keep3 w w') : RowAt w' lo g c l b :=
  ⟨h.1, h.2.1, fun hn => by
    obtain ⟨e, hb, a, ha, hx⟩ := h.2.2 hn
    exact ⟨e, hb, a, K _ _ _ ha, hx⟩⟩
theorem RowAt.ps {g : Option Addr} {c b : Nat} {l : List Int} (h : RowAt w lo g c l b) : PS .i64 w g c l :=
  ⟨h.1, h.2.1, fun hn => by
    obtain ⟨e, hb, a, ha, hx⟩ := h.2.2 (fun q => by rw [q] at hn; exact absurd hn (by simp))
    exact ⟨b, 0, e, fun i hi => by rw [Joins.cell_of_block ha, Nat.zero_add]; exact hx i hi⟩⟩
theorem RowsX.keep (h : RowsX w lo D G C P) (K : Keep3 w w') : RowsX w' lo D G C P := by
  obtain ⟨B, h1, h2⟩ := h
  exact ⟨B, fun k hk => (h1 k hk).keep K, h2⟩
theorem RowsX.ps (h : RowsX w lo D G C P) {k : Nat} (hk : D k) : PS .i64 w (G k) (C k) (P k) := by
  obtain ⟨B, h1, _⟩ := h
  exact (h1 k hk).ps
theorem rows_at {n c base : Nat} {o : Option Addr} {l : List Int} (h : RowS w base 3 1 (.slice o n c) n (its l)) (hn : l.length = n) : ∃ b, RowAt w base o c l b := by
  rcases h with ⟨rfl, _, ga, e⟩ | ⟨_, hl, ⟨q, e⟩ | ⟨g, cap, cur, q, h1, h2, h3, h4, h5, h6⟩⟩
  · simp only [Value.slice.injEq] at e
    obtain ⟨rfl, _, rfl⟩ := e
    exact ⟨0, by omega, by omega, fun hp => absurd (List.eq_nil_of_length_eq_zero hn) hp⟩
  · simp only [Value.slice.injEq] at q
    obtain ⟨rfl, _, rfl⟩ := q
    exact ⟨0, by omega, by omega, fun hp => absurd (List.eq_nil_of_length_eq_zero (by omega)) hp⟩
  · simp only [Value.slice.injEq] at q
    obtain ⟨rfl, _, rfl⟩ := q
    have h4' : c ≤ 9223372036854775807 := h4
    refine ⟨g, by omega, by omega, fun hp => ⟨rfl, h1, cur, h2, fun i hi => ?_⟩⟩
    have e1 : (cur.toList.take (n * 1))[i]? = (its l)[i]? := by rw [h6]
    rw [List.getElem?_take_of_lt (by omega)] at e1
    unfold its at e1
    rw [List.getElem?_map, List.getElem?_eq_getElem hi] at e1
    simpa using e1
theorem RowsX.one {g : Option Addr} {c b k0 : Nat} (hr : RowAt w lo g c (P k0) b) : RowsX w lo (fun k => k = k0) (fun _ => g) (fun _ => c) P :=
  ⟨fun _ => b, fun k hk => by rw [hk]; exact hr, fun a b ha hb _ _ _ => by rw [ha, hb]⟩
theorem RowsX.add (h : RowsX w lo D G C P) (K : Keep3 w w') {k0 : Nat} (hk : ¬ D k0) {g : Option Addr} {c b : Nat} (hr : RowAt w' w.heap.size g c (P k0) b) (hlo : lo ≤ w.heap.size) :
    RowsX w' lo (fun k => D k ∨ k = k0) (fun k => if k = k0 then g else G k) (fun k => if k = k0 then c else C k) P := by
  obtain ⟨B, h1, h2⟩ := h
  have old : ∀ a, D a → P a ≠ [] → B a < w.heap.size := fun a ha hn => by
    obtain ⟨_, _, x, hx, _⟩ := (h1 a ha).2.2 hn
    exact (Array.getElem?_eq_some_iff.1 hx).1
  have new : P k0 ≠ [] → w.heap.size ≤ b := fun hn => (hr.2.2 hn).2.1
  have ne : ∀ {a}, D a → a ≠ k0 := fun {a} ha e => hk (e ▸ ha)
  refine ⟨fun k => if k = k0 then b else B k, fun k q => ?_, fun x y qx qy nx ny e => ?_⟩
  · by_cases e : k = k0
    · subst e
      simp only [if_true]
      exact ⟨hr.1, hr.2.1, fun hn => ⟨(hr.2.2 hn).1, Nat.le_trans hlo (hr.2.2 hn).2.1, (hr.2.2 hn).2.2⟩⟩
    · simp only [if_neg e]
      exact (h1 k (q.resolve_right e)).keep K
  · by_cases ex : x = k0
    · by_cases ey : y = k0
      · rw [ex, ey]
      · simp only [if_pos ex, if_neg ey] at e
        have := old y (qy.resolve_right ey) ny
        have := new (by rw [← ex]; exact nx)
        omega
    · by_cases ey : y = k0
      · simp only [if_neg ex, if_pos ey] at e
        have := old x (qx.resolve_right ex) nx
        have := new (by rw [← ey]; exact ny)
        omega
      · simp only [if_neg ex, if_neg ey] at e
        exact h2 x y (qx.resolve_right ex) (qy.resolve_right ey) nx ny e
theorem RowsX.at (h : RowsX w lo D G C P) {k j : Nat} (hk : D k) (hj : j < (P k).length) : ∃ b, G k = some ⟨b, 0, none⟩ ∧ lo ≤ b ∧ w.cell? ⟨b, j, none⟩ = some (.int .i64 (P k)[j]) ∧ w.frozen? ⟨b, j, none⟩ = false ∧ (∃ a, w.heap[b]? = some (.cells a 3 (0, 0))) ∧ (P k).length ≤ C k ∧
    ∀ t, RowsX (w.setCell ⟨b, j, none⟩ (.int .i64 t)) lo D G C (updP P k ((P k).set j t)) := by
  obtain ⟨B, h1, h2⟩ := h
  have hn : P k ≠ [] := fun e => by rw [e] at hj; simp at hj
  obtain ⟨hc, hm, hx⟩ := h1 k hk
  obtain ⟨eg, hlo, a, ha, hv⟩ := hx hn
  refine ⟨B k, eg, hlo, by rw [Joins.cell_of_block ha]; exact hv j hj, Joins.unfrozen_of_block ha _, ⟨a, ha⟩, hc, fun t => ⟨B, fun q hq => ?_, fun x y qx qy nx ny e => ?_⟩⟩
  · by_cases e : q = k
    · subst e
      unfold updP
      rw [if_pos rfl]
      refine ⟨by simpa using hc, by simpa using hm, fun _ => ⟨eg, hlo, _, Joins.block_setCell ha _, fun i hi => ?_⟩⟩
      have hi' : i < (P q).length := by simpa using hi
      have hja := hv j hj
      have hjs := (Array.getElem?_eq_some_iff.1 hja).1
      by_cases ei : i = j
      · subst ei
        simp [hjs]
      · rw [Array.getElem?_setIfInBounds_ne (by omega), hv i hi', List.getElem_set_ne (by omega)]
    · unfold updP
      rw [if_neg e]
      obtain ⟨r1, r2, r3⟩ := h1 q hq
      refine ⟨r1, r2, fun hq0 => ?_⟩
      obtain ⟨f1, f2, x, hx, f3⟩ := r3 hq0
      refine ⟨f1, f2, x, (Below.heap_setCell _ _ _ _ (show B q ≠ B k from fun eb => e (h2 q k hq hk hq0 hn eb))).trans hx, f3⟩
  · have nn : ∀ {z}, updP P k ((P k).set j t) z ≠ [] → P z ≠ [] := fun {z} hz e => by
      unfold updP at hz
      split at hz
      · rename_i ez
        rw [ez] at e
        exact hn e
      · exact hz e
    exact h2 x y qx qy (nn nx) (nn ny) e
end
theorem ps_newz {kd : IntKind} {W : World} {o : Option Addr} {cap n : Nat} {l : List Int} (h : PS kd W o cap l) (hn : l.length = n) : 0 < n → ∃ a, o = some a ∧ ∀ j u, (l.map (Value.int kd))[j]? = some u → W.cell? (a.add j) = some u := fun hp => by
  obtain ⟨g, off, e, hx⟩ := h.num (by omega)
  refine ⟨_, e, fun j u hu => ?_⟩
  rw [List.getElem?_map] at hu
  obtain ⟨v, hv, rfl⟩ := Option.map_eq_some_iff.1 hu
  obtain ⟨hj, rfl⟩ := List.getElem?_eq_some_iff.1 hv
  have hadd : (⟨g, off, none⟩ : Addr).add j = ⟨g, off + j, none⟩ := by
    unfold Addr.add
    split
    · rename_i h; rw [h]; rfl
    · rfl
  rw [hadd]
  exact hx j hj
/-- the nodes' cells -/
def CellsX (W : World) (g : Gr) (cs : List Value) (i : Nat) (G : Nat → Option Addr) (C : Nat → Nat) : Prop :=
  ∀ n, n < i → ∃ o1 c1, PS .u64 W o1 c1 (nd0 g.nd n).ns ∧ cs[n * 4]? = some (.int .i64 (nd0 g.nd n).k) ∧ cs[n * 4 + 1]? = some (.int .i64 (nd0 g.nd n).i) ∧ cs[n * 4 + 2]? = some (.slice o1 (nd0 g.nd n).ns.length c1) ∧ cs[n * 4 + 3]? = some (.slice (G n) (nd0 g.nd n).ks.length (C n))
theorem CellsX.snoc {W : World} {g : Gr} {cs : List Value} {i : Nat} {G : Nat → Option Addr} {C : Nat → Nat} (h : CellsX W g cs i G C) (hl : cs.length = i * 4) {o1 o2 : Option Addr} {c1 c2 : Nat} (p : PS .u64 W o1 c1 (nd0 g.nd i).ns) :
    CellsX W g (cs ++ [.int .i64 (nd0 g.nd i).k, .int .i64 (nd0 g.nd i).i, .slice o1 (nd0 g.nd i).ns.length c1, .slice o2 (nd0 g.nd i).ks.length c2]) (i + 1) (fun k => if k = i then o2 else G k) (fun k => if k = i then c2 else C k) := fun n hn => by
  by_cases e : n = i
  · subst e
    refine ⟨o1, c1, p, ?_, ?_, ?_, ?_⟩
    · rw [List.getElem?_append_right (by omega), hl]; simp
    · rw [List.getElem?_append_right (by omega), hl]; simp [Nat.add_sub_cancel_left]
    · rw [List.getElem?_append_right (by omega), hl]; simp [Nat.add_sub_cancel_left]
    · rw [List.getElem?_append_right (by omega), hl]; simp [Nat.add_sub_cancel_left]
  · obtain ⟨o, c, hp, e0, e1, e2, e3⟩ := h n (by omega)
    have hh : n * 4 + 3 < cs.length := (List.getElem?_eq_some_iff.1 e3).1
    refine ⟨o, c, hp, ?_, ?_, ?_, ?_⟩
    · rw [List.getElem?_append_left (by omega)]; exact e0
    · rw [List.getElem?_append_left (by omega)]; exact e1
    · rw [List.getElem?_append_left (by omega)]; exact e2
    · rw [List.getElem?_append_left (by omega)]
      simp only [if_neg e]
      exact e3
theorem nds_of {w : World} {base : Nat} {l : List Nd} {cs : List Value} {gr : Option Addr} {rc : Nat} (r : w.ownsRow base 34 4 (.slice gr l.length rc) l.length cs) (h : ∀ i (hi : i < l.length), ∃ c, isNd w l[i] c ∧ ∀ j u, c[j]? = some u → cs[i * 4 + j]? = some u) (hl : l.length ≤ 1000) : Nds w l (.slice gr l.length rc) := by
  obtain ⟨hlen, q⟩ := r
  rcases q with ⟨e, h0⟩ | ⟨pb, cap, cur, e, hb, hg, h1, h2, h3, h4⟩
  · simp only [Value.slice.injEq] at e
    obtain ⟨rfl, _, rfl⟩ := e
    exact ⟨none, 0, rfl, ⟨by omega, by unfold maxLen; omega⟩, fun q => by omega⟩
  · simp only [Value.slice.injEq] at e
    obtain ⟨rfl, _, rfl⟩ := e
    refine ⟨_, rc, rfl, ⟨h1, by unfold maxLen; omega⟩, fun q => ⟨pb, 0, rfl, fun i x hi => ?_⟩⟩
    obtain ⟨hil, rfl⟩ := List.getElem?_eq_some_iff.1 hi
    obtain ⟨c, c1, c2⟩ := h i hil
    refine ⟨c, c1, fun j u hj => ?_⟩
    have h5 := c2 j u hj
    rw [← h4] at h5
    rw [Joins.cell_of_block hg]
    have hj4 : i * 4 + j < l.length * 4 := by
      have := (List.getElem?_eq_some_iff.1 h5).1
      simp at this
      omega
    rw [List.getElem?_take_of_lt hj4] at h5
    rw [Nat.zero_add]
    simpa using h5
/-- the copy in the making: its first i nodes -/
structure St1 (W3 wr : World) (ob : Nat) (g : Gr) (n1 m i : Nat) (G : Nat → Option Addr) (C : Nat → Nat) : Prop where
  bel : Below W3.heap.size W3 wr
  out : ∃ gn cn, wr.heap[ob]? = some (.cells #[.slice (G m) n1 (C m), .slice gn i cn] 25 (0, 0)) ∧ ∃ cs, wr.ownsRow W3.heap.size 34 4 (.slice gn i cn) i cs ∧ CellsX W3 g cs i G C
  rows : RowsX wr W3.heap.size (fun k => k = m ∨ k < i) G C (P0 g)
  lo : W3.heap.size ≤ ob
/-- the copy between two steps -/
structure St2 (W3 wr : World) (ob : Nat) (g : Gr) (n1 m : Nat) (G : Nat → Option Addr) (C : Nat → Nat) (gn : Option Addr) (cn : Nat) (cs : List Value) (P : Nat → List Int) : Prop where
  bel : Below W3.heap.size W3 wr
  box : wr.heap[ob]? = some (.cells #[.slice (G m) n1 (C m), .slice gn m cn] 25 (0, 0))
  row : wr.ownsRow W3.heap.size 34 4 (.slice gn m cn) m cs
  cells : CellsX W3 g cs m G C
  rows : RowsX wr W3.heap.size (fun k => k ≤ m) G C P
  rd : RdP g P
  lo : W3.heap.size ≤ ob
theorem St2.gv {W3 wr : World} {ob n1 m cn : Nat} {g : Gr} {G : Nat → Option Addr} {C : Nat → Nat} {gn : Option Addr} {cs : List Value} {P : Nat → List Int} (h : St2 W3 wr ob g n1 m G C gn cn cs P) (hm : g.nd.length = m) (hml : m ≤ 1000) : Gv wr (xg g P) (G m) (C m) gn cn := by
  subst hm
  refine ⟨h.rows.ps (Nat.le_refl _), ?_⟩
  have hr := h.row
  rw [← xg_len g P] at hr
  refine nds_of hr (fun i hi => ?_) (by rw [xg_len]; exact hml)
  rw [xg_len] at hi
  rw [← nd0_get, xg_nd g P hi]
  obtain ⟨o1, c1, p1, e0, e1, e2, e3⟩ := h.cells i hi
  have hlen : (P i).length = (nd0 g.nd i).ks.length := by rw [h.rd.len i (Nat.le_of_lt hi)]; unfold P0; rw [if_pos hi]
  refine ⟨_, ⟨o1, c1, G i, C i, rfl, p1.later h.bel, h.rows.ps (Nat.le_of_lt hi)⟩, fun j u hj => ?_⟩
  dsimp only at hj
  match j, hj with
  | 0, hj => rw [Nat.add_zero, e0]; exact hj
  | 1, hj => rw [e1]; exact hj
  | 2, hj => rw [e2]; exact hj
  | 3, hj => rw [e3, ← hlen]; exact hj
  | j + 4, hj => simp at hj
theorem RowsX.sub {w : World} {lo : Nat} {D D' : Nat → Prop} {G : Nat → Option Addr} {C : Nat → Nat} {P : Nat → List Int} (h : RowsX w lo D G C P) (hd : ∀ k, D' k → D k) : RowsX w lo D' G C P := by
  obtain ⟨B, h1, h2⟩ := h
  exact ⟨B, fun k hk => h1 k (hd k hk), fun a b ha hb => h2 a b (hd a ha) (hd b hb)⟩
theorem P0_at (g : Gr) {k : Nat} (hk : k < g.nd.length) : P0 g k = (nd0 g.nd k).ks := if_pos hk
theorem P0_rs (g : Gr) : P0 g g.nd.length = g.rs := if_neg (Nat.lt_irrefl _)
theorem St1.start {W3 X : World} {g : Gr} {n1 m c9 b : Nat} {g9 : Option Addr} (hm : g.nd.length = m) (B : Below W3.heap.size W3 X) (ra : RowAt X W3.heap.size g9 c9 g.rs b) :
    St1 W3 (X.alloc (.cells #[.slice g9 n1 c9, .slice none 0 0] 25)) X.heap.size g n1 m 0 (fun _ => g9) (fun _ => c9) := by
  have BX : Below X.heap.size X (X.alloc (.cells #[.slice g9 n1 c9, .slice none 0 0] 25)) := by go_grown
  refine ⟨belowOn B BX, ⟨none, 0, heap_alloc_new _ _, [], World.ownsRow_nil _ _ _ _, fun n hn => absurd hn (Nat.not_lt_zero _)⟩, ?_, B.size⟩
  refine (RowsX.one (P := P0 g) (k0 := m) (b := b) ?_).sub (fun k hk => hk.resolve_right (Nat.not_lt_zero _))
  rw [← hm, P0_rs]
  exact ra.keep (Keep3.later BX)
theorem St1.push {W3 wr w9 WD w11 : World} {ob n1 m i b c9 k1 cn cz : Nat} {g : Gr} {G : Nat → Option Addr} {C : Nat → Nat} {g9 p1 gn gz : Option Addr} {cs : List Value}
    (h : St1 W3 wr ob g n1 m i G C) (him : i < m) (hmg : g.nd.length = m) (hb : wr.heap[ob]? = some (.cells #[.slice (G m) n1 (C m), .slice gn i cn] 25 (0, 0))) (hr : wr.ownsRow W3.heap.size 34 4 (.slice gn i cn) i cs) (hc : CellsX W3 g cs i G C)
    (ra : RowAt w9 wr.heap.size g9 c9 (nd0 g.nd i).ks b) (p : PS .u64 W3 p1 k1 (nd0 g.nd i).ns) (BD : Below wr.heap.size wr WD) (K9 : Keep3 w9 WD)
    (r : w11.ownsRow W3.heap.size 34 4 (.slice gz (i + 1) cz) (i + 1) (cs ++ [.int .i64 (nd0 g.nd i).k, .int .i64 (nd0 g.nd i).i, .slice p1 (nd0 g.nd i).ns.length k1, .slice g9 (nd0 g.nd i).ks.length c9])) (gr : WD.grownBy w11 (Value.slice gn i cn).ownBlock) :
    St1 W3 (w11.setCell ⟨ob, 1, none⟩ (.slice gz (i + 1) cz)) ob g n1 m (i + 1) (fun k => if k = i then g9 else G k) (fun k => if k = i then c9 else C k) := by
  have hy : W3.heap.size ≤ WD.heap.size := Nat.le_trans h.bel.size BD.size
  have KT : Kt W3.heap.size 34 WD w11 := Kt.own gr (own_later hr BD) hy
  have ob1 := (BD.block _ (Array.getElem?_eq_some_iff.1 hb).1).trans hb
  have ob2 := KT.keep _ _ ob1 (fun c f e => by cases e)
  have KS : Kt W3.heap.size 25 w11 (w11.setCell ⟨ob, 1, none⟩ (.slice gz (i + 1) cz)) := Kt.set ob2 h.lo
  have K3 : Keep3 WD (w11.setCell ⟨ob, 1, none⟩ (.slice gz (i + 1) cz)) := (Keep3.ky KT.ky (by decide)).trans (Keep3.ky KS.ky (by decide))
  have ne : ¬ m = i := by omega
  refine ⟨((h.bel.trans (BD.mono h.bel.size)).trans KT.bel).trans KS.bel, ⟨gz, cz, ?_, _, own_ky r KS.ky (by decide) (fun _ _ => id), hc.snoc hr.1 p⟩, ?_, h.lo⟩
  · simp only [if_neg ne]
    exact Joins.block_setCell ob2 (i := 1) _
  · refine (h.rows.add ((Keep3.later BD).trans K3) (k0 := i) (by omega) (b := b) ?_ h.bel.size).sub (fun k hk => by omega)
    rw [P0_at g (by omega)]
    exact ra.keep (K9.trans K3)
theorem RdP.okd {g : Gr} {P : Nat → List Int} (h : RdP g P) (ok : ∀ n, n < g.nd.length → OkD (nd0 g.nd n)) (hm : g.nd.length ≤ 1000) (n : Nat) (hn : n < (xg g P).nd.length) : OkD (nd0 (xg g P).nd n) := by
  rw [xg_len] at hn
  rw [xg_nd g P hn]
  obtain ⟨k1, k2, k3, k4⟩ := ok n hn
  refine ⟨k1, k2, k3, fun p hp => ?_⟩
  obtain ⟨i, hi⟩ := List.getElem?_of_mem (show p ∈ P n from hp)
  have hl := (List.getElem?_eq_some_iff.1 hi).1
  rw [h.len n (Nat.le_of_lt hn)] at hl
  have hP := h.pl n (Nat.le_of_lt hn) i _ p (List.getElem?_eq_getElem hl) hi
  rcases hP with e | ⟨a, b, _, eb, ha, hs⟩
  · have : p ∈ P0 g n := by rw [e]; exact List.getElem_mem hl
    rw [P0_at g hn] at this
    exact k4 _ this
  · have := hs.lt ha
    unfold In64
    omega
theorem RdP.sm {g : Gr} {P : Nat → List Int} (h : RdP g P) (sm : Sm g) : Sm (xg g P) := by
  have hl := xg_len g P
  refine ⟨by rw [hl]; exact sm.nd, ?_, fun n => ?_, fun n => ?_⟩
  · have := h.len _ (Nat.le_refl _)
    rw [P0_rs] at this
    show (P g.nd.length).length ≤ 1000000
    rw [this]; exact sm.rs
  · rcases Nat.lt_or_ge n g.nd.length with q | q
    · rw [xg_nd g P q]
      show (P n).length ≤ 1000000
      rw [h.len n (Nat.le_of_lt q), P0_at g q]; exact sm.ks n
    · rw [nd0_far (by rw [hl]; exact q)]; simp
  · rcases Nat.lt_or_ge n g.nd.length with q | q
    · rw [xg_nd g P q]; exact sm.ns n
    · rw [nd0_far (by rw [hl]; exact q)]; simp
section
variable {W3 wr w' : World} {ob n1 m cn : Nat} {g : Gr} {G : Nat → Option Addr} {C : Nat → Nat} {gn : Option Addr} {cs : List Value} {P : Nat → List Int}
theorem St2.start (h : St1 W3 wr ob g n1 m m G C) (hb : wr.heap[ob]? = some (.cells #[.slice (G m) n1 (C m), .slice gn m cn] 25 (0, 0))) (hr : wr.ownsRow W3.heap.size 34 4 (.slice gn m cn) m cs) (hc : CellsX W3 g cs m G C) : St2 W3 wr ob g n1 m G C gn cn cs (P0 g) :=
  ⟨h.bel, hb, hr, hc, h.rows.sub (fun k hk => by omega), RdP.start g, h.lo⟩
theorem St2.later (h : St2 W3 wr ob g n1 m G C gn cn cs P) (B : Below wr.heap.size wr w') : St2 W3 w' ob g n1 m G C gn cn cs P :=
  ⟨h.bel.trans (B.mono h.bel.size), (B.block _ (Array.getElem?_eq_some_iff.1 h.box).1).trans h.box, own_later h.row B, h.cells, h.rows.keep (Keep3.later B), h.rd, h.lo⟩
theorem St2.put (h : St2 W3 wr ob g n1 m G C gn cn cs P) (hm : g.nd.length = m) {k j n b : Nat} (hk : k ≤ m) (hj : j < (P k).length) (hp : (P k)[j] = (n : Int)) (hn : n < m) (ok : ∀ j ∈ (nd0 g.nd n).ns, 0 ≤ j) (hto : 0 ≤ ldI (xg g P).nd n) (eg : G k = some ⟨b, 0, none⟩) :
    St2 W3 (wr.setCell ⟨b, j, none⟩ (.int .i64 (ldI (xg g P).nd n))) ob g n1 m G C gn cn cs (updP P k ((P k).set j (ldI (xg g P).nd n))) := by
  subst hm
  obtain ⟨b', eg', hlo, _, _, ⟨a, ha⟩, _, hset⟩ := h.rows.at hk hj
  rw [eg] at eg'
  obtain rfl : b = b' := by simpa using eg'
  have KS : Kt W3.heap.size 3 wr (wr.setCell ⟨b, j, none⟩ (.int .i64 (ldI (xg g P).nd n))) := Kt.set ha hlo
  exact ⟨h.bel.trans KS.bel, KS.keep _ _ h.box (fun c f e => by cases e), own_ky h.row KS.ky (by decide) (fun _ _ => id), h.cells, hset _, h.rd.set hk hn ok (by rw [List.getElem?_eq_getElem hj, hp]) hto, h.lo⟩
/-- a row of places, as the walk meets it -/
theorem St2.row_k (h : St2 W3 wr ob g n1 m G C gn cn cs P) (hm : g.nd.length = m) {k : Nat} (hk : k < m) : ∃ p, gn = some ⟨p, 0, none⟩ ∧ m ≤ cn ∧ cn ≤ maxLen ∧ wr.cell? ⟨p, k * 4 + 3, none⟩ = some (.slice (G k) (P k).length (C k)) := by
  obtain ⟨p, cap, e⟩ := own4_form h.row (by omega)
  simp only [Value.slice.injEq] at e
  obtain ⟨rfl, _, rfl⟩ := e
  obtain ⟨_, _, hc1, hc2, _, hcell, _⟩ := own4 h.row
  obtain ⟨_, _, _, _, _, _, e3⟩ := h.cells k hk
  have hl : (P k).length = (nd0 g.nd k).ks.length := by rw [h.rd.len k (by omega), P0_at g (by omega)]
  exact ⟨p, rfl, hc1, hc2, by rw [hl]; exact ((hcell _ (by omega)).1).trans e3⟩
end
end Go.Proofs.Ytncimddgkgclpaa
