/- A meeting: plain; in memory; isNew and numbered. -/
import Derived.Test.YtncimddgkgclpaaMtd
namespace Go.Proofs.Ytncimddgkgclpaa
open Go.RowKit
set_option linter.unusedVariables false
set_option linter.unusedSimpArgs false
set_option maxRecDepth 100000

/-! ## Plain -/
/-- where a number stands in a list -/
def pos : List Nat → Nat → Option Nat
  | [], _ => none
  | n :: r, p => if n = p then some 0 else (pos r p).map (· + 1)
theorem pos_app : ∀ (l : List Nat) (n p : Nat), pos l n = none → pos (l ++ [n]) p = if n = p then some l.length else pos l p
  | [], n, p, _ => by simp [pos]
  | a :: r, n, p, h => by
    have hn : a ≠ n := fun e => by simp [pos, e] at h
    have hr : pos r n = none := by simpa [pos, hn] using h
    have := pos_app r n p hr
    by_cases e : a = p
    · subst e
      simp [pos]
      intro q; exact absurd q.symm hn
    · simp only [List.cons_append, pos, if_neg e, this]
      split <;> simp
theorem pos_lt : ∀ (l : List Nat) (p i : Nat), pos l p = some i → i < l.length ∧ l[i]? = some p
  | [], _, _, h => by cases h
  | a :: r, p, i, h => by
    unfold pos at h
    split at h
    · cases h; rename_i e; subst e; exact ⟨by simp, rfl⟩
    · cases hr : pos r p with
      | none => rw [hr] at h; cases h
      | some j =>
        rw [hr] at h
        cases h
        have := pos_lt r p j hr
        exact ⟨by simp; omega, by simpa using this.2⟩
/-- is a place one that was not met -/
def newP (met : List Nat) (x : Int) : Prop := 0 ≤ x ∧ pos met x.toNat = none
instance (met : List Nat) (x : Int) : Decidable (newP met x) := by unfold newP; exact inferInstance
/-- what is met, in the order of meeting -/
def vis (D : Nat → List Int) : Nat → List Int → List Nat → List Nat
  | 0, _, met => met
  | _ + 1, [], met => met
  | f + 1, x :: l, met => if newP met x then vis D (f + 1) l (vis D f (D x.toNat) (met ++ [x.toNat])) else vis D (f + 1) l met
termination_by f l => (f, l.length)
/-- numbers that were not met -/
def unm (m : Nat) (met : List Nat) : Nat := cnt (fun p => (pos met p).isNone) m
/-- places are nodes of the graph's, or none -/
def Plc (m : Nat) (l : List Int) : Prop := ∀ x ∈ l, -1 ≤ x ∧ x < m
theorem unm_app {m : Nat} {met : List Nat} {p : Nat} (hp : p < m) (h : pos met p = none) : unm m (met ++ [p]) < unm m met := by
  refine cnt_lt m hp (fun i hi q => ?_) (by simp [h]) (by simp [pos_app met p p h])
  rw [pos_app met p i h] at q
  split at q
  · simp at q
  · exact q
theorem vis_nil (D : Nat → List Int) (f : Nat) (met : List Nat) : vis D f [] met = met := by cases f <;> simp [vis]
theorem vis_less {D : Nat → List Int} {m : Nat} (hD : ∀ n, Plc m (D n)) : ∀ (f : Nat) (l : List Int) (met : List Nat), Plc m l → unm m (vis D f l met) ≤ unm m met
  | 0, _, met, _ => by simp [vis]
  | f + 1, [], met, _ => by simp [vis]
  | f + 1, x :: l, met, h => by
    have hl : Plc m l := fun y hy => h y (List.mem_cons_of_mem _ hy)
    unfold vis
    split
    · rename_i q
      have hx := h x (by simp)
      have h1 := vis_less hD f (D x.toNat) (met ++ [x.toNat]) (hD _)
      have h2 := unm_app (m := m) (p := x.toNat) (by have := q.1; omega) q.2
      exact Nat.le_trans (vis_less hD (f + 1) l _ hl) (by omega)
    · exact vis_less hD (f + 1) l met hl
termination_by f l => (f, l.length)
theorem vis_fuel {D : Nat → List Int} {m : Nat} (hD : ∀ n, Plc m (D n)) : ∀ (f : Nat) (l : List Int) (met : List Nat), Plc m l → unm m met < f → vis D f l met = vis D (f + 1) l met
  | 0, _, _, _, h => by omega
  | f + 1, [], met, _, _ => by simp [vis]
  | f + 1, x :: l, met, hl, h => by
    have hl' : Plc m l := fun y hy => hl y (List.mem_cons_of_mem _ hy)
    rw [vis]
    conv => rhs; rw [vis]
    split
    · rename_i q
      have hx := hl x (by simp)
      have h2 := unm_app (m := m) (p := x.toNat) (by have := q.1; omega) q.2
      rw [vis_fuel hD f (D x.toNat) (met ++ [x.toNat]) (hD _) (by omega)]
      have h3 := vis_less hD (f + 1) (D x.toNat) (met ++ [x.toNat]) (hD _)
      exact vis_fuel hD (f + 1) l _ hl' (by omega)
    · exact vis_fuel hD (f + 1) l met hl' h
termination_by f l => (f, l.length)
/-- all that a stack has yet to be gone into, the top first -/
def visS (D : Nat → List Int) (F : Nat) : List (List Int) → List Nat → List Nat
  | [], met => met
  | l :: r, met => visS D F r (vis D F l met)
theorem vis_skip {D : Nat → List Int} {F : Nat} : ∀ (l : List Int) (met : List Nat), (∀ x ∈ l, ¬ newP met x) → ∀ r, vis D (F + 1) (l ++ r) met = vis D (F + 1) r met
  | [], met, _, r => rfl
  | x :: l, met, h, r => by
    have h1 := h x (by simp)
    rw [List.cons_append]
    conv => lhs; rw [vis]
    rw [if_neg h1]
    exact vis_skip l met (fun y hy => h y (List.mem_cons_of_mem _ hy)) r
theorem vis_done {D : Nat → List Int} {F : Nat} {l : List Int} {met : List Nat} (h : ∀ x ∈ l, ¬ newP met x) : vis D (F + 1) l met = met := by
  have := vis_skip (D := D) (F := F) l met h []
  rw [List.append_nil] at this
  rw [this, vis_nil]
theorem vis_meet {D : Nat → List Int} {m F : Nat} (hD : ∀ n, Plc m (D n)) {l r : List Int} {x : Int} {met : List Nat} (hl : Plc m (l ++ x :: r)) (h : ∀ y ∈ l, ¬ newP met y) (hx : newP met x) (hF : unm m met < F + 1) :
    vis D (F + 1) (l ++ x :: r) met = vis D (F + 1) r (vis D (F + 1) (D x.toNat) (met ++ [x.toNat])) := by
  rw [vis_skip l met h]
  conv => lhs; rw [vis]
  rw [if_pos hx]
  have hx2 := hl x (by simp)
  have h2 := unm_app (m := m) (p := x.toNat) (by have := hx.1; omega) hx.2
  rw [vis_fuel hD F (D x.toNat) _ (hD _) (by omega)]
/-- a place's number -/
def numI (met : List Nat) (x : Int) : Int := if 0 ≤ x then oI (pos met x.toNat) else -1

/-! ## In memory -/
/-- the cells of nodes that were met -/
def NR (lo : Nat) (X : Nat → Prop) (w : World) (D : Nat → Nd) : List Nat → List Value → Prop
  | [], cs => cs = []
  | n :: r, cs => ∃ o1 c1 o2 c2 cs', cs = .int .i64 (D n).k :: .int .i64 (D n).i :: .slice o1 (D n).ns.length c1 :: .slice o2 (D n).ks.length c2 :: cs' ∧ Fs lo X w .u64 40 o1 c1 (D n).ns ∧ Fs lo X w .i64 3 o2 c2 (D n).ks ∧ NR lo X w D r cs'
theorem NR.map {lo : Nat} {X : Nat → Prop} {w w' : World} {D : Nat → Nd} (h1 : ∀ {o c l}, Fs lo X w .u64 40 o c l → Fs lo X w' .u64 40 o c l) (h2 : ∀ {o c l}, Fs lo X w .i64 3 o c l → Fs lo X w' .i64 3 o c l) : ∀ {l : List Nat} {cs : List Value}, NR lo X w D l cs → NR lo X w' D l cs
  | [], _, h => h
  | n :: r, _, ⟨o1, c1, o2, c2, cs', e, p, q, t⟩ => ⟨o1, c1, o2, c2, cs', e, h1 p, h2 q, NR.map h1 h2 t⟩
theorem NR.snoc {lo : Nat} {X : Nat → Prop} {w : World} {D : Nat → Nd} : ∀ {l : List Nat} {cs : List Value}, NR lo X w D l cs → ∀ {n : Nat} {o1 o2 : Option Addr} {c1 c2 : Nat}, Fs lo X w .u64 40 o1 c1 (D n).ns → Fs lo X w .i64 3 o2 c2 (D n).ks →
    NR lo X w D (l ++ [n]) (cs ++ [.int .i64 (D n).k, .int .i64 (D n).i, .slice o1 (D n).ns.length c1, .slice o2 (D n).ks.length c2])
  | [], _, h, n, o1, o2, c1, c2, p, q => by
    have h' : _ = [] := h
    subst h'
    exact ⟨o1, c1, o2, c2, [], rfl, p, q, rfl⟩
  | a :: r, _, ⟨x1, y1, x2, y2, cs', e, p', q', t⟩, n, o1, o2, c1, c2, p, q => ⟨x1, y1, x2, y2, _, by rw [e]; rfl, p', q', NR.snoc t p q⟩
/-- what the map of numbers tells -/
def mfI (met : List Nat) (x : Int) : Option Value := if 0 ≤ x then (pos met x.toNat).map (fun (i : Nat) => Value.int .i64 (i : Int)) else none
/-- a meeting in memory -/
structure Mt (base lo : Nat) (X : Nat → Prop) (w : World) (mb mm : Nat) (lv nv : Value) (D : Nat → Nd) (met : List Nat) : Prop where
  box : w.heap[mb]? = some (.cells #[lv, .int .i64 (-1), .map (some mm), nv] 71 (0, 0))
  map : ∃ n f, n ≤ met.length ∧ VM 3 w mm n f ∧ ∀ x, isI x → f (.int .i64 x) = mfI met x
  row : ∃ cs, w.ownsRow lo 34 4 nv met.length cs ∧ NR lo X w D met cs
  lo : base ≤ lo ∧ lo ≤ mb ∧ lo ≤ mm ∧ ∀ k, X k → k < lo
section
variable {base lo mb mm : Nat} {X : Nat → Prop} {w w' : World} {lv nv : Value} {D : Nat → Nd} {met : List Nat}
theorem VM.isMap {k : TypeId} {n : Nat} {f : Lit → Option Value} (h : VM k w mm n f) : ∃ es c, w.heap[mm]? = some (.map es c) := by
  obtain ⟨D, ⟨es, clock, hb, _⟩, _⟩ := h
  exact ⟨es, clock, hb⟩
theorem Mt.no (h : Mt base lo X w mb mm lv nv D met) {k : Nat} (hk : lo ≤ k) : ¬ X k := fun q => by have := h.lo.2.2.2 k q; omega
theorem Mt.kx (h : Mt base lo X w mb mm lv nv D met) (K : Kx base X w w') : Mt base lo X w' mb mm lv nv D met := by
  obtain ⟨n, f, h1, h2, h3⟩ := h.map
  obtain ⟨cs, r1, r2⟩ := h.row
  obtain ⟨es, c, hm⟩ := h2.isMap
  refine ⟨K.keep _ _ h.box (h.no h.lo.2.1) (fun c f e => by cases e), ⟨n, f, h1, h2.of_block ((K.keep _ _ hm (h.no h.lo.2.2.1) (fun c f e => by cases e)).trans hm.symm), h3⟩, ⟨cs, ?_, r2.map (fun q => q.kx K (by decide)) (fun q => q.kx K (by decide))⟩, h.lo⟩
  obtain ⟨hl, r⟩ := r1
  refine ⟨hl, ?_⟩
  rcases r with e | ⟨pb, cap, cur, e, hb, hg, r⟩
  · exact .inl e
  · refine .inr ⟨pb, cap, cur, e, hb, K.keep _ _ hg (h.no hb) (fun c f e => by cases e), r⟩
theorem Mt.c0 (h : Mt base lo X w mb mm lv nv D met) : w.cell? ⟨mb, 0, none⟩ = some lv ∧ w.cell? ⟨mb, 1, none⟩ = some (.int .i64 (-1)) ∧ w.cell? ⟨mb, 2, none⟩ = some (.map (some mm)) ∧ w.cell? ⟨mb, 3, none⟩ = some nv := by
  refine ⟨?_, ?_, ?_, ?_⟩ <;> (rw [Joins.cell_of_block h.box]; rfl)
theorem Mt.look (h : Mt base lo X w mb mm lv nv D met) {x : Int} (hx : isI x) : (Instr.lookup 69 (.map (some mm)) (.int .i64 x) true).run Try.prog w = .ok (.tuple #[.int .i64 (if (mfI met x).isSome then numI met x else 0), .bool (mfI met x).isSome]) w := by
  obtain ⟨n, f, h1, h2, h3⟩ := h.map
  have := h2.look_ok lawI Try.underlying69 (zero3 w) (keyI hx)
  rw [h3 x hx] at this
  rw [this]
  congr 2
  unfold mfI numI
  split
  · cases pos met x.toNat <;> simp [oI]
  · simp
set_option maxHeartbeats 1000000 in
theorem isNew50 (h : Mt base lo X w mb mm lv nv D met) {x : Int} (hx : isI x) (h1 : -1 ≤ x) :
    Calls Try.prog 50 #[pt mb, .int .i64 x] w fun e w' => e = .returned (.bool (decide (newP met x))) ∧ Below w.heap.size w w' := by
  obtain ⟨c0, c1, c2, c3⟩ := h.c0
  have hl := h.look hx
  cases hm : (mfI met x).isSome with
  | true =>
    have e : decide (newP met x) = false := by
      refine decide_eq_false fun q => ?_
      unfold mfI at hm
      rw [if_pos q.1, q.2] at hm
      cases hm
    rw [hm] at hl
    rw [e]
    clear hm h e
    go_enter Try.func50, Try.ntmps50
    go_wp2
    go_ret
    exact ⟨rfl, Below.refl _ _⟩
  | false =>
    rw [hm] at hl
    have hl' : (Instr.lookup 69 (.map (some mm)) (.int .i64 x) true).run Try.prog w = .ok (.tuple #[.int .i64 0, .bool false]) w := hl
    by_cases h2 : x = -1
    · subst h2
      have e : decide (newP met (-1)) = false := decide_eq_false fun q => by have := q.1; omega
      rw [e]
      clear hm h e hl
      go_enter Try.func50, Try.ntmps50
      go_wp2
      go_ret
      exact ⟨rfl, Below.refl _ _⟩
    · have e : decide (newP met x) = true := by
        refine decide_eq_true ⟨by omega, ?_⟩
        unfold mfI at hm
        rw [if_pos (by omega), Option.isSome_map] at hm
        exact Option.not_isSome_iff_eq_none.1 (by rw [hm]; simp)
      have n1 : (x != -1) = true := by simpa using h2
      rw [e]
      clear hm h e hl h2
      go_enter Try.func50, Try.ntmps50
      go_wp2
      go_ret
      exact ⟨rfl, Below.refl _ _⟩
theorem Mt.later (h : Mt base lo X w mb mm lv nv D met) (hw : base ≤ w.heap.size) (B : Below w.heap.size w w') : Mt base lo X w' mb mm lv nv D met := h.kx (Kx.later hw B)
set_option maxHeartbeats 4000000 in
theorem numbered45 (h : Mt base lo X w mb mm lv nv D met) (hw : base ≤ w.heap.size) (hlo : lo ≤ w.heap.size) (l : List Int) (o : Option Addr) (cap : Nat) (P : PS .i64 w o cap l) (hi : ∀ x ∈ l, isI x) (hl : l.length ≤ 1000000) :
    Calls Try.prog 45 #[pt mb, .slice o l.length cap] w fun e w' => (∃ gq, e = .returned (.slice (some ⟨gq, 0, none⟩) l.length l.length) ∧ Fs lo X w' .i64 3 (some ⟨gq, 0, none⟩) l.length (l.map (numI met)) ∧ w.heap.size ≤ gq) ∧ Below w.heap.size w w' := by
  have hc := P.cap
  have HP := Hid.mk P
  have HH := Hid.mk h
  have HI := Hid.mk hi
  obtain ⟨n, hn⟩ : ∃ n, l.length = n := ⟨_, rfl⟩
  have HN := Hid.mk hn
  rw [hn] at hl hc ⊢
  obtain ⟨w1, hm, F1, B1, S1⟩ := made_ints w n hl
  obtain ⟨gq, hgq⟩ : ∃ gq, w.heap.size = gq := ⟨_, rfl⟩
  rw [hgq] at hm F1 B1
  have HG := Hid.mk hgq
  have H1 : Hid (IR w1 gq n (fun _ => 0) ∧ Below gq w w1) := ⟨F1.ir, B1⟩
  have HW := Hid.mk (And.intro hw hlo)
  clear P hn h hi F1 B1 S1 hgq hw hlo
  go_enter Try.func45, Try.ntmps45
  go_wp2
  go_loopw [15] (fun cv wr => ∃ i : Nat, cv = .int .i64 i ∧ i ≤ n ∧ Hid (∃ E, IR wr gq n E ∧ (∀ j (h : j < l.length), j < i → E j = numI met l[j]) ∧ Below gq w wr)) (fun cv _ => n - (intOf cv).toNat)
  case atStart => exact ⟨0, rfl, Nat.zero_le _, ⟨_, H1.out.1, fun j _ hj => absurd hj (Nat.not_lt_zero _), H1.out.2⟩⟩
  case round =>
    obtain ⟨i, rfl, hi, HE⟩ := hrel
    by_cases hlt : i < n
    · have hlt' : (i : Int) < n := by omega
      have kl : i < l.length := by rw [HN.out]; exact hlt
      obtain ⟨E, IE, AE, BE⟩ := HE.out
      have BW : Below w.heap.size w wr := by rw [HG.out]; exact BE
      obtain ⟨g1, f1, rfl, cx⟩ := (HP.out.later BW).get i kl
      have M1 := HH.out.later HW.out.1 BW
      obtain ⟨c0, c1, c2, c3⟩ := M1.c0
      have hl1 := M1.look (HI.out _ (List.getElem_mem kl))
      have HZ : Hid (∀ j (h : j < l.length), j = i → numI met l[j] = numI met l[i]) := ⟨fun j h e => by subst e; rfl⟩
      have HB := Hid.mk (And.intro IE (And.intro AE BE))
      have ee := IE.cell hlt
      have ez := IE.z i
      have hnone : (mfI met l[i]).isSome = false → numI met l[i] = -1 := fun q => by
        unfold mfI at q
        unfold numI
        split
        · rename_i q2
          rw [if_pos q2] at q
          rw [Option.isSome_map] at q
          have : pos met l[i].toNat = none := Option.not_isSome_iff_eq_none.1 (by rw [q]; simp)
          rw [this]; rfl
        · rfl
      generalize l[i] = y at *
      have hcase : ∃ (z : Int) (b : Bool), (Instr.lookup 69 (.map (some mm)) (.int .i64 y) true).run Try.prog wr = .ok (.tuple #[.int .i64 z, .bool b]) wr ∧ (b = true → z = numI met y) ∧ (b = false → numI met y = -1) :=
        ⟨_, _, hl1, fun q => by rw [if_pos q], hnone⟩
      clear hl1 hnone IE AE BE M1
      have fin : ∀ (z : Int), z = numI met y → Hid (IR (wr.setCell ⟨gq, i, none⟩ (.int .i64 z)) gq n (upd E i z) ∧ (∀ j (h : j < l.length), j < i + 1 → upd E i z j = numI met l[j]) ∧ Below gq w (wr.setCell ⟨gq, i, none⟩ (.int .i64 z))) := fun z hz => ⟨HB.out.1.set hlt z, fun j h hj => by
        by_cases q : j = i
        · subst q; rw [upd_at, hz]; exact (HZ.out j h rfl).symm
        · rw [upd_far _ _ q]; exact HB.out.2.1 j h (by omega), HB.out.2.2.setCell (Nat.le_refl _) _⟩
      have HFIN := Hid.mk fin
      obtain ⟨z, b, hl2, hz1, hz2⟩ := hcase
      have HZ1 := Hid.mk hz1
      have HZ2 := Hid.mk hz2
      clear hz1 hz2 fin
      cases b with
      | true =>
        have HF := HFIN.out z (HZ1.out rfl)
        go_wp2
        go_roundw
        case rel => exact ⟨i + 1, by go_num, by omega, ⟨_, HF.out⟩⟩
        case measure => simp [intOf]; omega
      | false =>
        have HF := HFIN.out (-1) (HZ2.out rfl).symm
        go_wp2
        go_roundw
        case rel => exact ⟨i + 1, by go_num, by omega, ⟨_, HF.out⟩⟩
        case measure => simp [intOf]; omega
    · obtain rfl : i = n := by omega
      go_wp2
      go_ret
      obtain ⟨E, ⟨c, q1, q2, q3⟩, AE, BE⟩ := HE.out
      have hll : (l.map (numI met)).length = i := by simp [HN.out]
      have hgl : lo ≤ gq := by have := HW.out.2; have := HG.out; omega
      refine ⟨⟨gq, rfl, ⟨by rw [hll]; exact Nat.le_refl _, by rw [hll]; omega, fun _ => ⟨gq, 0, c, rfl, hgl, HH.out.no hgl, q1, fun j hj => ?_⟩⟩, Nat.le_of_eq HG.out⟩, by rw [HG.out]; exact BE⟩
      rw [hll] at hj
      rw [Nat.zero_add, q3 j hj, AE j (by rw [HN.out]; exact hj) hj]
      simp
end
end Go.Proofs.Ytncimddgkgclpaa
