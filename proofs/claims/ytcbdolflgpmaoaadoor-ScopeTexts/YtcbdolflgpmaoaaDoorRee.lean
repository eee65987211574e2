/- The document's reader in memory: what it holds, what stays as it was. -/
import Derived.Test.YtcbdolflgpmaoaaDoorScan
import Derived.Test.YtcbdolflgpmaoaaDoorTreeJoin
import Derived.BigQuiet
import Derived.Deep.QuietTactic
import Derived.Deep.CutRange
import Derived.Test.YtcbdolflgpmaoaaDoorPrg
import Derived.Test.YtcbdolflgpmaoaaDoorScd
import Derived.Test.YtcbdolflgpmaoaaDoorWok
import Derived.Deep.RegionLaw
namespace Go.Proofs.YtcbdolflgpmaoaaDoor
open Go.RowKit
set_option linter.unusedVariables false
set_option linter.unusedSimpArgs false

abbrev nil3 : Value := .slice none 0 0
abbrev zero46 : Array Value := #[.int .i64 0, .int .i64 0, .string ⟨#[]⟩, .int .i64 0, nil3, nil3, nil3, nil3]
def isEV (w : World) (ok : Nat → Prop) (x : E) (v : Value) : Prop := ∃ c, v = .agg c.toArray ∧ isE w ok x c

theorem own_store {W : World} {X size m : Nat} {e : TypeId} {v : Value} {xs : List Value} (h : W.ownsRow (X + 1) e size v m xs) (j : Nat) (u : Value) : (W.setCell ⟨X, j, none⟩ u).ownsRow (X + 1) e size v m xs :=
  ownsRow_setCell_below h (Nat.lt_succ_self _) u
theorem own_call {W W' : World} {b X size m : Nat} {e : TypeId} {v : Value} {xs : List Value} (h : W.ownsRow (X + 1) e size v m xs) (F : Fr b W W') (hb : b ≤ X) : W'.ownsRow (X + 1) e size v m xs := own_fr h F (by omega)
theorem own_new {w W : World} {X size m : Nat} {e : TypeId} {v : Value} {xs : List Value} (h : W.ownsRow (X + 1) e size v m xs) (hX : w.heap.size ≤ X) (hm : m ≤ 1000000000) : IsRow W (new w W) xs m v :=
  row_of_owns h (fun g hg => ⟨by have := (h.lt g hg).1; omega, (h.lt g hg).2⟩) hm
theorem z_own_kept {W W' : World} {X M size m : Nat} {e : TypeId} {v : Value} {xs : List Value} (h : W.ownsRow (X + 1) e size v m xs) (k : W.grownBy W' (some M)) (hM : M ≤ X) : W'.ownsRow (X + 1) e size v m xs := own_fr h k (by omega)
theorem grown_setRow (w : World) (M : Nat) (cs : Array Value) : w.grownBy (w.setRow M cs) (some M) :=
  ⟨rfl, rfl, rfl, by simp [World.setRow], fun i _ hb => by
    simp only [World.setRow, Array.getElem?_modify]
    rw [if_neg (fun e => hb (by rw [e]))]⟩
theorem Blk.set {w : World} {m : Nat} {cs cs' : Array Value} {t : TypeId} (h : Blk w m cs t) : Blk (w.setRow m cs') m cs' t := setRow_heap w m _ _ t _ h
theorem size46 : (Tryd.prog.info? 45).map (·.size) = some 8 := by kernel_rfl
theorem info84 : (Tryd.prog.info? 40).map (fun i => (i.zero, i.size, i.bytes)) = some (some (.agg #[.string ⟨#[]⟩, .int .i64 0]), 2, 24) := by kernel_rfl
theorem atmC_snoc (l : List Atm) (a : Atm) : atmC (l ++ [a]) = atmC l ++ [.string (str a.name), .int .i64 a.num] := by simp [atmC]
theorem new_two {w : World} {u v : Value} {t : TypeId} : ∀ j x, [u, v][j]? = some x → (w.alloc (.cells #[u, v] t)).cell? ((⟨w.heap.size, 0, none⟩ : Addr).add j) = some x := World.news_of_block (heap_alloc_new w _)

theorem cellsT_get : ∀ (l : List Tok) (i : Nat) (h : i < l.length), (cellsT l)[i * 4]? = some (.int .i64 (l[i]'h).kind) ∧ (cellsT l)[i * 4 + 1]? = some (.string (str (l[i]'h).text)) ∧ (cellsT l)[i * 4 + 2]? = some (.int .i64 (l[i]'h).num) ∧ (cellsT l)[i * 4 + 3]? = some (.int .i64 (l[i]'h).at')
  | [], _, h => absurd h (Nat.not_lt_zero _)
  | a :: l, 0, _ => ⟨rfl, rfl, rfl, rfl⟩
  | a :: l, i + 1, h => by
    obtain ⟨h0, h1, h2, h3⟩ := cellsT_get l i (by simpa using h)
    have e : cellsT (a :: l) = tokC a ++ cellsT l := rfl
    have key : ∀ j u, (cellsT l)[i * 4 + j]? = some u → (cellsT (a :: l))[(i + 1) * 4 + j]? = some u := fun j u hu => by
      rw [e, List.getElem?_append_right (by simp only [tokC, List.length_cons, List.length_nil]; omega)]
      simp only [tokC, List.length_cons, List.length_nil]
      rw [show (i + 1) * 4 + j - (0 + 1 + 1 + 1 + 1) = i * 4 + j by omega]
      exact hu
    exact ⟨key 0 _ h0, key 1 _ h1, key 2 _ h2, key 3 _ h3⟩
/-- blocks behind X that are not the row's own -/
def inn (X : Nat) (w : World) (v : Value) : Nat → Prop := fun g => X < g ∧ g < w.heap.size ∧ v.ownBlock ≠ some g
theorem keeps_old {W W1 W2 : World} {b X g cap m j : Nat} {v u : Value} {o : Obj} (F : Fr b W W1) (hb : b ≤ X) (G : (W1.alloc o).grownBy W2 v.ownBlock) (hat : v.ownBlock = some g ∨ g = (W1.alloc o).heap.size) :
    Keeps (inn X W v) (inn X (W2.setCell ⟨X, j, none⟩ u) (.slice (some ⟨g, 0, none⟩) m cap)) W (W2.setCell ⟨X, j, none⟩ u) := by
  have s1 := F.size
  have s2 := G.size
  rw [World.size_alloc] at s2 hat
  refine ⟨fun q off c hq hc => ?_, fun q hq => ⟨hq.1, ?_, fun e => ?_⟩⟩
  · have h1 := F.cell hc (fun e => by have e' : q = b := Option.some.inj e; have := hq.1; omega)
    have h2 := (grown_alloc W1 o).cell h1 (fun e => by cases e)
    have h3 := G.cell h2 (fun e => hq.2.2 e.symm)
    have hqX : X ≠ q := by have := hq.1; omega
    rw [set_other (block_ne hqX)]
    exact h3
  · rw [World.size_setCell]
    have := hq.2.1
    omega
  · simp only [Value.ownBlock, Option.some.injEq] at e
    subst e
    rcases hat with z | z
    · exact hq.2.2 z
    · have := hq.2.1
      omega
theorem keeps_new {Wc W1 W2 : World} {X g cap m j : Nat} {v u : Value} {o : Obj} (hv : ∀ i, v.ownBlock = some i → i < Wc.heap.size) (hX : X < Wc.heap.size) (hc : Wc.heap.size ≤ W1.heap.size) (G : (W1.alloc o).grownBy W2 v.ownBlock) (hat : v.ownBlock = some g ∨ g = (W1.alloc o).heap.size) :
    Keeps (new Wc W1) (inn X (W2.setCell ⟨X, j, none⟩ u) (.slice (some ⟨g, 0, none⟩) m cap)) W1 (W2.setCell ⟨X, j, none⟩ u) := by
  have s2 := G.size
  rw [World.size_alloc] at s2 hat
  refine ⟨fun q off c hq hc => ?_, fun q hq => ⟨by have := hq.1; omega, ?_, fun e => ?_⟩⟩
  · have h2 := (grown_alloc W1 o).cell hc (fun e => by cases e)
    have h3 := G.cell h2 (fun e => by have := hv q e.symm; have := hq.1; omega)
    have hqX : X ≠ q := by have := hq.1; omega
    rw [set_other (block_ne hqX)]
    exact h3
  · rw [World.size_setCell]
    have := hq.2
    omega
  · simp only [Value.ownBlock, Option.some.injEq] at e
    subst e
    rcases hat with z | z
    · have := hv g z
      have := hq.1
      omega
    · have := hq.2
      omega
theorem keeps_other {W W1 W2 : World} {b X j : Nat} {v u : Value} {o : Obj} (F : Fr b W W1) (hb : b ≤ X) (G : (W1.alloc o).grownBy W2 none) : Keeps (inn X W v) (inn X (W2.setCell ⟨X, j, none⟩ u) v) W (W2.setCell ⟨X, j, none⟩ u) := by
  have s1 := F.size
  have s2 := G.size
  rw [World.size_alloc] at s2
  refine ⟨fun q off c hq hc => ?_, fun q hq => ⟨hq.1, by rw [World.size_setCell]; have := hq.2.1; omega, hq.2.2⟩⟩
  have h1 := F.cell hc (fun e => by have e' : q = b := Option.some.inj e; have := hq.1; omega)
  have h2 := (grown_alloc W1 o).cell h1 (fun e => by cases e)
  have h3 := G.cell h2 (fun e => by cases e)
  have hqX : X ≠ q := by have := hq.1; omega
  rw [set_other (block_ne hqX)]
  exact h3
theorem own_none {w w' : World} {base size n : Nat} {e : TypeId} {v : Value} {xs : List Value} (h : w.ownsRow base e size v n xs) (G : w.grownBy w' none) : w'.ownsRow base e size v n xs :=
  h.kept G (by
    rcases hv : v.ownBlock with _ | k
    · exact .inl rfl
    · exact .inr (fun q => by cases q))
/-- behind a call or an alloc -/
theorem keeps_inn {W W1 : World} {b X : Nat} {v : Value} (F : Fr b W W1) (hb : b ≤ X) : Keeps (inn X W v) (inn X W1 v) W W1 :=
  ⟨fun q off c hq hc => F.cell hc (fun e => by have e' : q = b := Option.some.inj e; have := hq.1; omega), fun q hq => ⟨hq.1, by have := F.size; have := hq.2.1; omega, hq.2.2⟩⟩
/-- handed out: the result's block is written -/
theorem keeps_hand {w W : World} {M X : Nat} {v : Value} {cs : Array Value} (hM : M < X) (hw : w.heap.size ≤ X) : Keeps (inn X W v) (new w (W.setRow M cs)) W (W.setRow M cs) :=
  keeps_grown (grown_setRow W M cs) (fun g hg e => by cases e; have := hg.1; omega) (fun g hg => ⟨by have := hg.1; omega, by rw [size_setRow]; exact hg.2.1⟩)


/-- one step of the grammar, of a reader that may have failed -/
def runO {α : Type} (p : List Tok → PR α) : Option (List Tok) → Option (List Tok)
  | some l => (match p l with
    | .ok (_, r) => some r
    | .error _ => none)
  | none => none
def valO {α : Type} (p : List Tok → PR α) : Option (List Tok) → Option α
  | some l => (match p l with
    | .ok (x, _) => some x
    | .error _ => none)
  | none => none
theorem runO_some {α : Type} {p : List Tok → PR α} {l r : List Tok} {x : α} (h : p l = .ok (x, r)) : runO p (some l) = some r ∧ valO p (some l) = some x := by simp only [runO, valO, h, and_self]
theorem valO_some {α : Type} {p : List Tok → PR α} {o : Option (List Tok)} {x : α} (h : valO p o = some x) : ∃ l r, o = some l ∧ p l = .ok (x, r) ∧ runO p o = some r := by
  cases o with
  | none => cases h
  | some l =>
    simp only [valO] at h
    split at h
    · rename_i y r e
      cases h
      exact ⟨l, r, rfl, e, by simp only [runO, e]⟩
    · cases h
def isR (s : List UInt8) : Option (List Tok) → Bool
  | some l => isS s l
  | none => false
def hdO : Option (List Tok) → Int → Value
  | some (t :: _), _ => .agg #[.int .i64 t.kind, .string (str t.text), .int .i64 t.num, .int .i64 t.at']
  | _, n => .agg #[.int .i64 0, .string ⟨#[]⟩, .int .i64 0, .int .i64 n]

/-- the reader's block: the tokens that are left, or none behind a fault -/
structure RdR (w : World) (b : Nat) (o : Option (List Tok)) (n : Int) : Prop where
  ex : ∃ (ts : List Tok) (k : Nat) (ga : Option Addr) (cap : Nat) (e4 e5 : Int), Blk w b #[.slice ga ts.length cap, .int .i64 k, .int .i64 n, .bool o.isNone, .int .i64 e4, .int .i64 e5] 68 ∧ (ts.length ≤ cap ∧ ts.length ≤ 16384) ∧ k ≤ ts.length ∧
    (∀ l, o = some l → l = ts.drop k) ∧ (o = none → e4 ≠ 0) ∧ (0 < ts.length → ∃ g off, ga = some ⟨g, off, none⟩ ∧ g < b ∧ ∀ j u, (cellsT ts)[j]? = some u → w.cell? ⟨g, off + j, none⟩ = some u)
  good : ∀ l, o = some l → Good l
section
variable {w w' : World} {b : Nat} {o : Option (List Tok)} {n : Int}
theorem RdR.lt (h : RdR w b o n) : b < w.heap.size := by
  obtain ⟨ts, k, ga, cap, e4, e5, X, _⟩ := h.ex
  exact X.lt
theorem RdR.kept {row : Option Nat} (h : RdR w b o n) (k : w.grownBy w' row) (hr : ∀ i, row = some i → b < i) : RdR w' b o n := by
  obtain ⟨ts, j, ga, cap, e4, e5, X, a1, a2, a3, a4, a5⟩ := h.ex
  refine ⟨⟨ts, j, ga, cap, e4, e5, X.kept k (fun e => by have := hr b e; omega), a1, a2, a3, a4, fun hn => ?_⟩, h.good⟩
  obtain ⟨g, off, e1, e2, e3⟩ := a5 hn
  exact ⟨g, off, e1, e2, fun j u hj => k.cell (e3 j u hj) (fun q => by have := hr g q.symm; omega)⟩
theorem RdR.alloc (h : RdR w b o n) (x : Obj) : RdR (w.alloc x) b o n := h.kept (grown_alloc _ _) (fun i e => by cases e)
theorem RdR.drew (h : RdR w b o n) : RdR w.drew b o n := h.kept (grown_drew _) (fun i e => by cases e)
theorem RdR.below (h : RdR w b o n) (k : Below w.heap.size w w') : RdR w' b o n := h.kept (row := none) ⟨k.os, k.tape, k.output, k.size, fun i hi _ => k.block i hi⟩ (fun i e => by cases e)
theorem RdR.len {l : List Tok} (h : RdR w b (some l) n) : l.length ≤ 16384 := by
  obtain ⟨ts, j, ga, cap, e4, e5, X, a1, a2, a3, _⟩ := h.ex
  rw [a3 l rfl, List.length_drop]
  omega
def leftO : Option (List Tok) → Nat
  | some l => l.length + 1
  | none => 0
end

theorem below_dn {B : Nat} {a w : World} (h : Below B a w) (k : Nat) : Below B a (w.drewN k) := ⟨h.os, h.tape, h.output, h.size, h.block⟩
set_option maxRecDepth 100000 in
set_option maxHeartbeats 4000000 in
theorem token_any {w : World} {b : Nat} {o : Option (List Tok)} {n : Int} (R : RdR w b o n) : Calls Tryd.prog 39 #[ptr b] w fun e w' => e = .returned (hdO o n) ∧ Below w.heap.size w w' := by
  have lt := R.lt
  obtain ⟨ts, k, ga, cap, e4, e5, X, ⟨a0, a1⟩, a2, a3, a4, a5⟩ := R.ex
  have c0 : w.cell? ⟨b, 0, none⟩ = some (.slice ga ts.length cap) := X.cell 0
  have c1 : w.cell? ⟨b, 1, none⟩ = some (.int .i64 k) := X.cell 1
  have c2 : w.cell? ⟨b, 2, none⟩ = some (.int .i64 n) := X.cell 2
  have c3 : w.cell? ⟨b, 3, none⟩ = some (.bool o.isNone) := X.cell 3
  have nb : ¬ b = w.heap.size := by omega
  have nb' : ¬ w.heap.size = b := by omega
  cases o with
  | none =>
    simp only [Option.isNone_none] at c3
    clear X a3 a4 a5 R
    go_enter Tryd.func39, Tryd.ntmps39
    go_wp2
    go_quiet (fail)
    all_goals go_wp2
    all_goals exact bodyPost_ret (v := hdO none n) (by simp [results, Tryd.results39, go_sem, hdO]) rfl ⟨rfl, by first | (go_grown; done) | (go_grown; exact below_dn (bal (Below.refl _ w) _) _)⟩
  | some l =>
    simp only [Option.isNone_some] at c3
    have el := a3 l rfl
    cases l with
    | nil =>
      have hk : k = ts.length := by have := congrArg List.length el; simp at this; omega
      have hlt : ¬ (k : Int) < ts.length := by omega
      clear X a3 a4 a5 R el hk
      go_enter Tryd.func39, Tryd.ntmps39
      go_wp2
      go_region_held3 (fun w' => w'.cell? ⟨b, 3, none⟩ = some (.bool false) ∧ w'.cell? ⟨b, 2, none⟩ = some (.int .i64 n) ∧ w'.cell? ⟨b, 1, none⟩ = some (.int .i64 k) ∧ w'.cell? ⟨b, 0, none⟩ = some (.slice ga ts.length cap)) (go_keep) (fail)
      all_goals go_wp2
      all_goals exact bodyPost_ret (v := hdO (some []) n) (by simp [results, Tryd.results39, go_sem, hdO]) rfl ⟨rfl, by go_grown⟩
    | cons t r =>
      have hk : k < ts.length := by have := congrArg List.length el; simp at this; omega
      have hlt : (k : Int) < ts.length := by omega
      obtain ⟨g, off, rfl, hg, hx⟩ := a5 (by omega)
      have et : ts[k]'hk = t := by rw [List.drop_eq_getElem_cons hk] at el; exact (List.cons.inj el).1.symm
      obtain ⟨q0, q1, q2, q3⟩ := cellsT_get ts k hk
      rw [et] at q0 q1 q2 q3
      have z0 := hx _ _ q0
      have z1 := hx _ _ q1
      have z2 := hx _ _ q2
      have z3 := hx _ _ q3
      rw [← Nat.add_assoc] at z1 z2 z3
      have ng : ¬ g = w.heap.size := by omega
      have ng' : ¬ w.heap.size = g := by omega
      clear X a3 a4 a5 R el hx q0 q1 q2 q3 et
      go_enter Tryd.func39, Tryd.ntmps39
      go_wp2
      go_region_held3 (fun w' => w'.cell? ⟨b, 3, none⟩ = some (.bool false) ∧ w'.cell? ⟨b, 1, none⟩ = some (.int .i64 k) ∧ w'.cell? ⟨b, 0, none⟩ = some (.slice (some ⟨g, off, none⟩) ts.length cap)) (go_keep) (fail)
      all_goals go_wp2
      all_goals go_region_held3 (fun w' => w'.cell? ⟨b, 1, none⟩ = some (.int .i64 k) ∧ w'.cell? ⟨b, 0, none⟩ = some (.slice (some ⟨g, off, none⟩) ts.length cap) ∧ w'.cell? ⟨g, off + k * 4, none⟩ = some (.int .i64 t.kind) ∧ w'.cell? ⟨g, off + k * 4 + 1, none⟩ = some (.string (str t.text)) ∧ w'.cell? ⟨g, off + k * 4 + 2, none⟩ = some (.int .i64 t.num) ∧ w'.cell? ⟨g, off + k * 4 + 3, none⟩ = some (.int .i64 t.at')) (go_keep) (fail)
      all_goals go_wp2
      all_goals exact bodyPost_ret (v := hdO (some (t :: r)) n) (by simp [results, Tryd.results39, go_sem, hdO]) rfl ⟨rfl, by go_grown⟩

end Go.Proofs.YtcbdolflgpmaoaaDoor


/- The document's reader: a fault, one token further, what stands next, what is wanted. -/
namespace Go.Proofs.YtcbdolflgpmaoaaDoor
open Go.RowKit
set_option linter.unusedVariables false
set_option linter.unusedSimpArgs false

theorem fieldR0 (k t m a : Value) (w : World) : (Instr.field 70 (.agg #[k, t, m, a]) 0).run Tryd.prog w = .ok k w := by kernel_rfl
theorem fieldR1 (k t m a : Value) (w : World) : (Instr.field 70 (.agg #[k, t, m, a]) 1).run Tryd.prog w = .ok t w := by kernel_rfl
theorem fieldR2 (k t m a : Value) (w : World) : (Instr.field 70 (.agg #[k, t, m, a]) 2).run Tryd.prog w = .ok m w := by kernel_rfl
theorem fieldR3 (k t m a : Value) (w : World) : (Instr.field 70 (.agg #[k, t, m, a]) 3).run Tryd.prog w = .ok a w := by kernel_rfl
theorem hdO_form (o : Option (List Tok)) (n : Int) : ∃ (k m a : Int) (s : ByteArray), hdO o n = .agg #[.int .i64 k, .string s, .int .i64 m, .int .i64 a] := by
  rcases o with _ | (_ | ⟨t, r⟩) <;> exact ⟨_, _, _, _, rfl⟩
section
variable {w : World} {b : Nat} {o : Option (List Tok)} {n : Int}
theorem fr_of_set {W : World} (hB : Below w.heap.size w W) (j : Nat) (v : Value) : Fr b w (W.setCell ⟨b, j, none⟩ v) := (Fr.of_below hB).set j v
set_option maxRecDepth 100000 in
set_option maxHeartbeats 4000000 in
theorem rfail_any (R : RdR w b o n) (c : Int) (hc : c ≠ 0) : Calls Tryd.prog 40 #[ptr b, .int .i64 c] w fun e w' => e = done ∧ Fr b w w' ∧ RdR w' b none n := by
  have lt := R.lt
  have T := token_any R
  obtain ⟨ts, k, ga, cap, e4, e5, X, a1, a2, a3, a4, a5⟩ := R.ex
  have c3 : w.cell? ⟨b, 3, none⟩ = some (.bool o.isNone) := X.cell 3
  cases o with
  | none =>
    simp only [Option.isNone_none] at c3
    have HR : Hid (RdR w b none n) := ⟨R⟩
    clear R X a1 a2 a3 a4 a5 T
    go_enter Tryd.func40, Tryd.ntmps40
    go_wp2
    go_end0
    exact ⟨rfl, Fr.refl _ _, HR.out⟩
  | some l =>
    simp only [Option.isNone_some] at c3
    obtain ⟨tk, tm, ta, tx, eh⟩ := hdO_form (some l) n
    rw [eh] at T
    have f3 := fieldR3
    have HX : Hid (Blk w b #[.slice ga ts.length cap, .int .i64 k, .int .i64 n, .bool (some l).isNone, .int .i64 e4, .int .i64 e5] 68) := ⟨X⟩
    have HA : Hid (0 < ts.length → ∃ g off, ga = some ⟨g, off, none⟩ ∧ g < b ∧ ∀ j u, (cellsT ts)[j]? = some u → w.cell? ⟨g, off + j, none⟩ = some u) := ⟨a5⟩
    have HA1 : Hid ((ts.length ≤ cap ∧ ts.length ≤ 16384) ∧ k ≤ ts.length) := ⟨⟨a1, a2⟩⟩
    clear R X a1 a2 a3 a4 a5 eh
    go_enter Tryd.func40, Tryd.ntmps40
    go_wp2_with (go_at_call 39; refine T.mono ?_; rintro e w1 ⟨rfl, B1⟩; have X1 : Blk w1 b _ 68 := (B1.block b HX.out.lt).trans HX.out; have y3 : w1.cell? ⟨b, 3, none⟩ = some (.bool false) := X1.cell 3; have y4 : w1.cell? ⟨b, 4, none⟩ = some (.int .i64 e4) := X1.cell 4; have y5 : w1.cell? ⟨b, 5, none⟩ = some (.int .i64 e5) := X1.cell 5; have z3 := X1.z 3; have z4 := X1.z 4; have z5 := X1.z 5)
    go_end0
    refine ⟨rfl, ((fr_of_set B1 5 _).set 4 _).set 3 _, ⟨ts, k, ga, cap, c, ta, ?_, HA1.out.1, HA1.out.2, fun l h => (by cases h), fun _ => hc, fun hn => ?_⟩, fun l h => (by cases h)⟩
    · exact Joins.block_setCell (i := 3) (Joins.block_setCell (i := 4) (Joins.block_setCell (i := 5) X1 _) _) _
    · obtain ⟨g, off, e1, e2, e3⟩ := HA.out hn
      refine ⟨g, off, e1, e2, fun j u hj => ?_⟩
      have q := e3 j u hj
      rw [set_other (block_ne (by omega)), set_other (block_ne (by omega)), set_other (block_ne (by omega))]
      exact (B1.cell (World.block_lt_of_cell? _ _ q)).trans q
set_option maxRecDepth 100000 in
set_option maxHeartbeats 4000000 in
theorem on_any (R : RdR w b o n) (h : ∀ l, o = some l → l ≠ []) : Calls Tryd.prog 23 #[ptr b] w fun e w' => e = done ∧ Fr b w w' ∧ RdR w' b (o.map List.tail) n := by
  have lt := R.lt
  obtain ⟨ts, k, ga, cap, e4, e5, X, a1, a2, a3, a4, a5⟩ := R.ex
  have c3 : w.cell? ⟨b, 3, none⟩ = some (.bool o.isNone) := X.cell 3
  have c1 : w.cell? ⟨b, 1, none⟩ = some (.int .i64 k) := X.cell 1
  have z1 := X.z 1
  cases o with
  | none =>
    simp only [Option.isNone_none] at c3
    have HR : Hid (RdR w b none n) := ⟨R⟩
    clear R X a1 a2 a3 a4 a5
    go_enter Tryd.func23, Tryd.ntmps23
    go_wp2
    go_end0
    exact ⟨rfl, Fr.refl _ _, HR.out⟩
  | some l =>
    simp only [Option.isNone_some] at c3
    have el := a3 l rfl
    have hk : k < ts.length := by
      rcases Nat.lt_or_ge k ts.length with z | z
      · exact z
      · rw [List.drop_eq_nil_of_le z] at el
        exact absurd el (h l rfl)
    have hg : ∀ m, some l.tail = some m → Good m := fun m hm => by
      cases hm
      cases l with
      | nil => exact absurd rfl (h [] rfl)
      | cons t r => exact (R.good _ rfl).tail
    have hd : ∀ m, some l.tail = some m → m = ts.drop (k + 1) := fun m hm => by cases hm; rw [el, List.tail_drop]
    have hm5 : 0 < ts.length → ∃ g off, ga = some ⟨g, off, none⟩ ∧ g < b ∧ ∀ j u, (cellsT ts)[j]? = some u → (w.setCell ⟨b, 1, none⟩ (.int .i64 ((k + 1 : Nat) : Int))).cell? ⟨g, off + j, none⟩ = some u := fun hn => by
      obtain ⟨g, off, e1, e2, e3⟩ := a5 hn
      exact ⟨g, off, e1, e2, fun j u hj => by rw [set_other (block_ne (by omega))]; exact e3 j u hj⟩
    have HR : Hid (RdR (w.setCell ⟨b, 1, none⟩ (.int .i64 ((k + 1 : Nat) : Int))) b (some l.tail) n) := ⟨⟨⟨ts, k + 1, ga, cap, e4, e5, Joins.block_setCell (i := 1) X _, a1, by omega, hd, fun q => (by cases q), hm5⟩, hg⟩⟩
    have hkb : k ≤ 16384 := by omega
    clear R X a2 a3 a4 a5 el hg hd hm5
    go_enter Tryd.func23, Tryd.ntmps23
    go_wp2
    go_end0
    refine ⟨rfl, (Fr.refl b w).set 1 _, ?_⟩
    exact HR.out
set_option maxRecDepth 100000 in
set_option maxHeartbeats 4000000 in
theorem is_any (R : RdR w b o n) (s : List UInt8) : Calls Tryd.prog 22 #[ptr b, .string (str s)] w fun e w' => e = .returned (.bool (isR s o)) ∧ Below w.heap.size w w' := by
  have T := token_any R
  have zero : ∀ o : Option (List Tok), (o = none ∨ o = some []) → hdO o n = .agg #[.int .i64 0, .string ⟨#[]⟩, .int .i64 0, .int .i64 n] ∧ isR s o = false := fun o h => by rcases h with rfl | rfl <;> exact ⟨rfl, rfl⟩
  by_cases h : o = none ∨ o = some []
  · rw [(zero o h).1] at T
    rw [(zero o h).2]
    clear R zero h
    go_enter Tryd.func22, Tryd.ntmps22
    go_wp2_with (go_at_call 39; refine T.mono ?_; rintro e w1 ⟨rfl, B1⟩)
    go_ret
    exact ⟨rfl, bal B1 _⟩
  · obtain ⟨t, r, rfl⟩ : ∃ t r, o = some (t :: r) := by
      rcases o with _ | (_ | ⟨t, r⟩)
      · exact absurd (.inl rfl) h
      · exact absurd (.inr rfl) h
      · exact ⟨t, r, rfl⟩
    have e : isR s (some (t :: r)) = ((t.kind == 5 || t.kind == 6) && t.text == s) := rfl
    rw [e]
    simp only [hdO] at T
    have d : ((str t.text).toList == (str s).toList) = (t.text == s) := by
      rw [ByteArray.toList_eq, ByteArray.toList_eq, str_list, str_list]
    generalize (t.text == s) = q at *
    clear R zero h e
    by_cases k5 : t.kind = 5
    · rw [k5] at T ⊢
      go_enter Tryd.func22, Tryd.ntmps22
      go_wp2_with (go_at_call 39; refine T.mono ?_; rintro e w1 ⟨rfl, B1⟩)
      go_ret
      exact ⟨rfl, bal B1 _⟩
    · by_cases k6 : t.kind = 6
      · rw [k6] at T ⊢
        go_enter Tryd.func22, Tryd.ntmps22
        go_wp2_with (go_at_call 39; refine T.mono ?_; rintro e w1 ⟨rfl, B1⟩)
        go_ret
        exact ⟨rfl, bal B1 _⟩
      · have k5' : (t.kind == 5) = false := by simp [k5]
        have k6' : (t.kind == 6) = false := by simp [k6]
        rw [k5', k6']
        go_enter Tryd.func22, Tryd.ntmps22
        go_wp2_with (go_at_call 39; refine T.mono ?_; rintro e w1 ⟨rfl, B1⟩)
        go_ret
        exact ⟨rfl, bal B1 _⟩
theorem want_run (s : List UInt8) (o : Option (List Tok)) : runO (pWant s) o = if isR s o then o.map List.tail else none := by
  cases o with
  | none => rfl
  | some l =>
    have e : isR s (some l) = isS s l := rfl
    rw [e]
    cases q : isS s l with
    | true => simp [runO, pWant, q]
    | false => simp [runO, pWant, q]
set_option maxRecDepth 100000 in
set_option maxHeartbeats 4000000 in
theorem want_any (R : RdR w b o n) (s : List UInt8) : Calls Tryd.prog 25 #[ptr b, .string (str s)] w fun e w' => e = done ∧ Fr b w w' ∧ RdR w' b (runO (pWant s) o) n := by
  have I := is_any R s
  rw [want_run]
  have HR : Hid (RdR w b o n) := ⟨R⟩
  cases hi : isR s o with
  | true =>
    rw [hi] at I
    rw [if_pos rfl]
    have hne : ∀ l, o = some l → l ≠ [] := fun l e z => by rw [e, z] at hi; cases hi
    have HH : Hid (∀ l, o = some l → l ≠ []) := ⟨hne⟩
    have ON := fun w1 (B1 : Below w.heap.size w w1) => on_any (R.below B1) hne
    generalize o.map List.tail = o2 at *
    clear hi R hne
    go_enter Tryd.func25, Tryd.ntmps25
    go_wp2_with (first
      | (go_at_call 22; refine I.mono ?_; rintro e w1 ⟨rfl, B1⟩)
      | (go_at_call 23; refine (ON _ B1).mono ?_; rintro e w2 ⟨rfl, F2, R2⟩))
    exact bodyPost_ret (results_none rfl _ _ _) rfl ⟨rfl, (Fr.of_below B1).trans F2, R2⟩
  | false =>
    rw [hi] at I
    rw [if_neg (by decide)]
    clear hi R
    go_enter Tryd.func25, Tryd.ntmps25
    go_wp2_with (first
      | (go_at_call 22; refine I.mono ?_; rintro e w1 ⟨rfl, B1⟩)
      | (go_at_call 40; refine (rfail_any (HR.out.below B1) 23 (by decide)).mono ?_; rintro e w2 ⟨rfl, F2, R2⟩))
    go_end0
    exact ⟨rfl, (Fr.of_below B1).trans F2, R2⟩
end

end Go.Proofs.YtcbdolflgpmaoaaDoor


/- The document's reader: a token of a kind, names, atoms. -/
namespace Go.Proofs.YtcbdolflgpmaoaaDoor
open Go.RowKit
set_option linter.unusedVariables false
set_option linter.unusedSimpArgs false

abbrev tokR (t : Tok) : Value := .agg #[.int .i64 t.kind, .string (str t.text), .int .i64 t.num, .int .i64 t.at']
abbrev zero58 : Array Value := #[.int .i64 0, .string ⟨#[]⟩, .int .i64 0, .int .i64 0]
/-- how many tokens are left, read off the block -/
def mz (w : World) (b : Nat) : Nat :=
  match w.cell? ⟨b, 0, none⟩, w.cell? ⟨b, 1, none⟩, w.cell? ⟨b, 3, none⟩ with
  | some (.slice _ m _), some (.int _ k), some (.bool false) => m - k.toNat + 1
  | _, _, _ => 0
theorem RdR.mz {w : World} {b : Nat} {o : Option (List Tok)} {n : Int} (h : RdR w b o n) : mz w b = leftO o := by
  obtain ⟨ts, k, ga, cap, e4, e5, X, a1, a2, a3, _⟩ := h.ex
  have c0 : w.cell? ⟨b, 0, none⟩ = some (.slice ga ts.length cap) := X.cell 0
  have c1 : w.cell? ⟨b, 1, none⟩ = some (.int .i64 k) := X.cell 1
  have c3 : w.cell? ⟨b, 3, none⟩ = some (.bool o.isNone) := X.cell 3
  unfold Go.Proofs.YtcbdolflgpmaoaaDoor.mz
  rw [c0, c1, c3]
  cases o with
  | none => rfl
  | some l =>
    rw [a3 l rfl]
    simp only [Option.isNone_some, leftO, List.length_drop, Int.toNat_natCast]
section
variable {w : World} {b : Nat} {o : Option (List Tok)} {n : Int}
theorem RdR.put (h : RdR w b o n) {m : Nat} (hm : b < m) (j : Nat) (v : Value) : RdR (w.setCell ⟨m, j, none⟩ v) b o n := h.kept (z_grown_set w m j v) (fun i e => by cases e; exact hm)
theorem kind_cases (k : Int) (o : Option (List Tok)) : (∃ t r, o = some (t :: r) ∧ t.kind = k) ∨ (runO (pKind k) o = none ∧ valO (pKind k) o = none) := by
  rcases o with _ | (_ | ⟨t, r⟩)
  · exact .inr ⟨rfl, rfl⟩
  · exact .inr ⟨rfl, rfl⟩
  · by_cases h : t.kind = k
    · exact .inl ⟨t, r, rfl, h⟩
    · exact .inr ⟨by simp [runO, pKind, h], by simp [valO, pKind, h]⟩
theorem hd_ne {k : Int} (hk : k ≠ 0) (h : ¬ ∃ t r, o = some (t :: r) ∧ t.kind = k) : ∃ (a m p : Int) (s : ByteArray), hdO o n = .agg #[.int .i64 a, .string s, .int .i64 m, .int .i64 p] ∧ (a == k) = false := by
  rcases o with _ | (_ | ⟨t, r⟩)
  · exact ⟨0, 0, n, ⟨#[]⟩, rfl, by simp; omega⟩
  · exact ⟨0, 0, n, ⟨#[]⟩, rfl, by simp; omega⟩
  · refine ⟨t.kind, t.num, t.at', str t.text, rfl, ?_⟩
    simp only [beq_eq_false_iff_ne]
    exact fun q => h ⟨t, r, rfl, q⟩
set_option maxRecDepth 100000 in
set_option maxHeartbeats 4000000 in
theorem kind_any (R : RdR w b o n) (k : Int) (hk : k ≠ 0) : Calls Tryd.prog 24 #[ptr b, .int .i64 k] w fun e w' => Fr b w w' ∧ RdR w' b (runO (pKind k) o) n ∧ ∃ t : Tok, e = .returned (tokR t) ∧ ∀ y, valO (pKind k) o = some y → t = y := by
  have lt := R.lt
  have X0 := Blk.fresh w zero58 70
  have hB0 := Joins.below_alloc1 w (.cells zero58 70)
  have T := token_any (R.alloc (.cells zero58 70))
  have HR : Hid (RdR (w.alloc (.cells zero58 70)) b o n) := ⟨R.alloc _⟩
  by_cases hm : ∃ t r, o = some (t :: r) ∧ t.kind = k
  · obtain ⟨t, r, rfl, rfl⟩ := hm
    have hrun : runO (pKind t.kind) (some (t :: r)) = some r ∧ valO (pKind t.kind) (some (t :: r)) = some t := runO_some (by simp [pKind])
    rw [hrun.1, hrun.2]
    simp only [hdO] at T
    have ON := fun (w1 : World) (R1 : RdR w1 b (some (t :: r)) n) => on_any R1 (fun l e z => by cases e; cases z)
    clear R hrun
    go_enter Tryd.func24, Tryd.ntmps24
    go_wp2_with (first
      | (go_at_call 39; refine T.mono ?_; rintro e w1 ⟨rfl, B1⟩; have R1 := HR.out.below B1; have X1 : Blk w1 w.heap.size zero58 70 := (B1.block _ X0.lt).trans X0; have L1 := Blk.fresh w1 #[.int .i64 t.kind, .string (str t.text), .int .i64 t.num, .int .i64 t.at'] 70; have lt1 := X1.lt)
      | (go_at_call 23; refine (ON _ (R1.alloc _)).mono ?_; rintro e w2 ⟨rfl, F2, R2⟩; have X2 := (X1.alloc _).kept F2 (fun q => by cases q; omega); have L2 := L1.kept F2 (fun q => by cases q; omega); have x0 : w2.cell? ⟨w.heap.size, 0, none⟩ = some (.int .i64 0) := X2.cell 0; have x1 : w2.cell? ⟨w.heap.size, 1, none⟩ = some (.string ⟨#[]⟩) := X2.cell 1; have x2 : w2.cell? ⟨w.heap.size, 2, none⟩ = some (.int .i64 0) := X2.cell 2; have x3 : w2.cell? ⟨w.heap.size, 3, none⟩ = some (.int .i64 0) := X2.cell 3; have f0 := X2.z 0; have f1 := X2.z 1; have f2 := X2.z 2; have f3 := X2.z 3; have y0 : w2.cell? ⟨w1.heap.size, 0, none⟩ = some (.int .i64 t.kind) := L2.cell 0; have y1 : w2.cell? ⟨w1.heap.size, 1, none⟩ = some (.string (str t.text)) := L2.cell 1; have y2 : w2.cell? ⟨w1.heap.size, 2, none⟩ = some (.int .i64 t.num) := L2.cell 2; have y3 : w2.cell? ⟨w1.heap.size, 3, none⟩ = some (.int .i64 t.at') := L2.cell 3))
    refine bodyPost_ret (v := tokR t) (by simp [results, Tryd.results24, go_sem, x0, x1, x2, x3]) rfl ⟨?_, ?_, t, rfl, fun y h => by cases h; rfl⟩
    · have F02 := (Fr.of_below (b := b) ((hB0.trans (Joins.below_le B1 (by simp))))).alloc (.cells #[.int .i64 t.kind, .string (str t.text), .int .i64 t.num, .int .i64 t.at'] 70) |>.trans F2
      exact (((F02.put (Nat.le_refl _) 0 _).put (Nat.le_refl _) 1 _).put (Nat.le_refl _) 2 _).put (Nat.le_refl _) 3 _
    · exact (((R2.put lt 0 _).put lt 1 _).put lt 2 _).put lt 3 _
  · have hrun : runO (pKind k) o = none ∧ valO (pKind k) o = none := (kind_cases k o).resolve_left hm
    rw [hrun.1, hrun.2]
    obtain ⟨ta, tm, tp, tx, eh, hne⟩ := hd_ne (n := n) hk hm
    rw [eh] at T
    have FL := fun (w1 : World) (R1 : RdR w1 b o n) => rfail_any R1 23 (by decide)
    clear R hrun hm eh
    go_enter Tryd.func24, Tryd.ntmps24
    go_wp2_with (first
      | (go_at_call 39; refine T.mono ?_; rintro e w1 ⟨rfl, B1⟩; have R1 := HR.out.below B1; have X1 : Blk w1 w.heap.size zero58 70 := (B1.block _ X0.lt).trans X0; have lt1 := X1.lt)
      | (go_at_call 40; refine (FL _ (R1.alloc _)).mono ?_; rintro e w2 ⟨rfl, F2, R2⟩; have X2 := (X1.alloc (.cells #[.int .i64 ta, .string tx, .int .i64 tm, .int .i64 tp] 70)).kept F2 (fun q => by cases q; omega); have x0 : w2.cell? ⟨w.heap.size, 0, none⟩ = some (.int .i64 0) := X2.cell 0; have x1 : w2.cell? ⟨w.heap.size, 1, none⟩ = some (.string ⟨#[]⟩) := X2.cell 1; have x2 : w2.cell? ⟨w.heap.size, 2, none⟩ = some (.int .i64 0) := X2.cell 2; have x3 : w2.cell? ⟨w.heap.size, 3, none⟩ = some (.int .i64 0) := X2.cell 3; have f0 := X2.z 0; have f1 := X2.z 1; have f2 := X2.z 2; have f3 := X2.z 3))
    refine bodyPost_ret (v := tokR ⟨0, [], 0, 0⟩) (by simp [results, Tryd.results24, go_sem, x0, x1, x2, x3, str]) rfl ⟨?_, ?_, ⟨0, [], 0, 0⟩, rfl, fun y h => by cases h⟩
    · have F02 := (Fr.of_below (b := b) ((hB0.trans (Joins.below_le B1 (by simp))))).alloc (.cells #[.int .i64 ta, .string tx, .int .i64 tm, .int .i64 tp] 70) |>.trans F2
      exact (((F02.put (Nat.le_refl _) 0 _).put (Nat.le_refl _) 1 _).put (Nat.le_refl _) 2 _).put (Nat.le_refl _) 3 _
    · exact (((R2.put lt 0 _).put lt 1 _).put lt 2 _).put lt 3 _
/-- the names that stand next -/
def namesO : Option (List Tok) → List (List UInt8) × Option (List Tok)
  | some l => ((pNames l).1, some (pNames l).2)
  | none => ([], none)
def atomsO : Option (List Tok) → List Atm × Option (List Tok)
  | some l => ((pAtoms l).1, some (pAtoms l).2)
  | none => ([], none)
theorem own_row2 {W : World} {size m : Nat} {t : TypeId} {v : Value} {xs : List Value} (h : W.ownsRow w.heap.size t size v m xs) (hn : m ≤ 1000000000) : IsRow W (new w W) xs m v := row_of_owns h (fun g hg => h.lt g hg) hn
set_option maxRecDepth 100000 in
set_option maxHeartbeats 4000000 in
theorem rnames_any (R : RdR w b o n) : Calls Tryd.prog 41 #[ptr b] w fun e w' => ∃ v, e = .returned v ∧ Fr b w w' ∧ RdR w' b (namesO o).2 n ∧ w'.ownsRow w.heap.size 9 1 v (namesO o).1.length (strC (namesO o).1) ∧ (namesO o).1.length ≤ 16384 := by
  have lt := R.lt
  have f0 := fieldR0
  have f1 := fieldR1
  obtain ⟨P, hP⟩ : ∃ P, namesO o = P := ⟨_, rfl⟩
  rw [hP]
  have hlen : leftO o ≤ 16385 := by
    cases o with
    | none => simp [leftO]
    | some l => have := R.len; simp only [leftO]; omega
  go_enter Tryd.func41, Tryd.ntmps41
  go_wp2
  go_loopw [3] (fun v wr => ∃ ns o', RdR wr b o' n ∧ Hid (ns ++ (namesO o').1 = P.1 ∧ (namesO o').2 = P.2) ∧ ns.length + leftO o' ≤ 16385 ∧ ns.length ≤ 16384 ∧ Fr b w wr ∧ wr.ownsRow w.heap.size 9 1 v ns.length (strC ns) ∧ Hid (mz wr b = leftO o')) (fun _ wr => mz wr b)
  case atStart => exact ⟨[], o, R, ⟨by rw [hP]; exact ⟨rfl, rfl⟩⟩, by simp; exact hlen, by simp, Fr.refl _ _, World.ownsRow_nil _ _ _ _, ⟨R.mz⟩⟩
  case round =>
    clear R hP hlen
    obtain ⟨ns, o', R, H, hl, hl2, F, O, HM⟩ := hrel
    have T := token_any R
    have HR : Hid (RdR wr b o' n) := ⟨R⟩
    have HF : Hid (Fr b w wr) := ⟨F⟩
    by_cases hm : ∃ t r, o' = some (t :: r) ∧ t.kind = 1
    · obtain ⟨t, r, rfl, hk⟩ := hm
      simp only [hdO] at T
      rw [hk] at T
      have HN : Hid ((ns ++ [t.text]) ++ (namesO (some r)).1 = P.1 ∧ (namesO (some r)).2 = P.2) := ⟨by
        have := H.out
        simp only [namesO, pNames, if_pos hk] at this
        simpa [namesO] using this⟩
      simp only [leftO, List.length_cons] at hl HM
      have T2 := fun (w1 : World) (B1 : Below wr.heap.size wr w1) => token_any (R.below B1)
      simp only [hdO] at T2
      rw [hk] at T2
      obtain ⟨i0, hi, hz0, hz1, hz2⟩ := info_parts info9
      have HO : Hid (wr.ownsRow w.heap.size 9 1 u3 ns.length (strC ns)) := ⟨O⟩
      have sF := F.size
      clear R H F O
      go_wp2_with (first
        | (go_at_call 39; refine T.mono ?_; rintro e w1 ⟨rfl, B1⟩; have sB1 := B1.size; clear T)
        | (go_at_call 39; refine (T2 _ B1).mono ?_; rintro e w2 ⟨rfl, B2⟩; have B12 := B1.trans (Joins.below_le B2 B1.size); have sB2 := B12.size; have O2 := own_fr HO.out (Fr.of_below (b := b) B12) lt)
        | (at_builtin; refine wpList_append_lies _ rfl _ _ 38 rfl w.heap.size 9 i0 _ 1 16 Tryd.underlying38 hi hz0 hz1 hz2 rfl (by decide) u3 ns.length (strC ns) rfl (own_alloc O2 _) ⟨_, 0, none⟩ 1 1 [.string (str t.text)] rfl rfl new_one (by simp [Value.oneCell']) (by decide) (by unfold maxLen; omega) (by omega) (by simp; omega) _ rfl ?_; intro q cap1 w3 ho hg hat hlt; have R3 := ((HR.out.below B12).alloc (.cells #[.string (str t.text)] 9)).kept hg (fun i hi => by have := (O2.lt i hi).1; omega); have F3 := ((HF.out.trans (Fr.of_below B12)).alloc (.cells #[.string (str t.text)] 9)).row (own_alloc O2 _) hg; clear hg hat hlt hi hz0 hz1 hz2)
        | (go_at_call 23; refine (on_any R3 (fun l e z => by cases e; cases z)).mono ?_; rintro e w4 ⟨rfl, F4, R4⟩; have O4 := own_fr ho F4 lt; simp only [Option.map_some, List.tail_cons] at R4))
      refine ⟨⟨ns ++ [t.text], some r, R4, HN, by simp only [leftO, List.length_append, List.length_cons, List.length_nil]; omega, by simp; omega, F3.trans F4, ?_, ⟨R4.mz⟩⟩, ?_⟩
      · rw [strC_snoc, List.length_append]
        exact O4
      · rw [R4.mz, HM.out]
        simp only [leftO]
        omega
    · obtain ⟨ta, tm, tp, tx, eh, hne⟩ := hd_ne (n := n) (k := 1) (by decide) hm
      rw [eh] at T
      have hz : namesO o' = ([], o') := by
        rcases o' with _ | (_ | ⟨t, r⟩)
        · rfl
        · rfl
        · have : ¬ t.kind = 1 := fun q => hm ⟨t, r, rfl, q⟩
          simp [namesO, pNames, this]
      have HZ : Hid (P.1 = ns ∧ P.2 = o') := ⟨by
        have := H.out
        rw [hz] at this
        simp only [List.append_nil] at this
        exact ⟨this.1.symm, this.2.symm⟩⟩
      have HO : Hid (wr.ownsRow w.heap.size 9 1 u3 ns.length (strC ns)) := ⟨O⟩
      clear R H hm eh hz F O
      go_wp2_with (go_at_call 39; refine T.mono ?_; rintro e w1 ⟨rfl, B1⟩)
      go_ret
      obtain ⟨h1, h2⟩ := HZ.out
      rw [h1, h2]
      exact ⟨_, rfl, HF.out.trans (Fr.of_below B1), HR.out.below B1, own_fr HO.out (Fr.of_below (b := b) B1) lt, hl2⟩
end

end Go.Proofs.YtcbdolflgpmaoaaDoor


/- The document's reader: atoms. -/
namespace Go.Proofs.YtcbdolflgpmaoaaDoor
open Go.RowKit
set_option linter.unusedVariables false
set_option linter.unusedSimpArgs false

section
variable {w : World} {b : Nat} {o : Option (List Tok)} {n : Int}
theorem hd_ne2 (h : ¬ ∃ t r, o = some (t :: r) ∧ (t.kind = 1 ∨ t.kind = 4)) : ∃ (a m p : Int) (s : ByteArray), hdO o n = .agg #[.int .i64 a, .string s, .int .i64 m, .int .i64 p] ∧ (a == 1) = false ∧ (a == 4) = false := by
  rcases o with _ | (_ | ⟨t, r⟩)
  · exact ⟨0, 0, n, ⟨#[]⟩, rfl, rfl, rfl⟩
  · exact ⟨0, 0, n, ⟨#[]⟩, rfl, rfl, rfl⟩
  · refine ⟨t.kind, t.num, t.at', str t.text, rfl, ?_, ?_⟩
    · simp only [beq_eq_false_iff_ne]
      exact fun q => h ⟨t, r, rfl, .inl q⟩
    · simp only [beq_eq_false_iff_ne]
      exact fun q => h ⟨t, r, rfl, .inr q⟩
set_option maxRecDepth 100000 in
set_option maxHeartbeats 4000000 in
theorem ratoms_any (R : RdR w b o n) : Calls Tryd.prog 63 #[ptr b] w fun e w' => ∃ v, e = .returned v ∧ Fr b w w' ∧ RdR w' b (atomsO o).2 n ∧ w'.ownsRow w.heap.size 40 2 v (atomsO o).1.length (atmC (atomsO o).1) ∧ (atomsO o).1.length ≤ 16384 := by
  have lt := R.lt
  have f0 := fieldR0
  obtain ⟨P, hP⟩ : ∃ P, atomsO o = P := ⟨_, rfl⟩
  rw [hP]
  have hlen : leftO o ≤ 16385 := by
    cases o with
    | none => simp [leftO]
    | some l => have := R.len; simp only [leftO]; omega
  go_enter Tryd.func63, Tryd.ntmps63
  go_wp2
  go_loopw [3] (fun v wr => ∃ ns o', RdR wr b o' n ∧ Hid (ns ++ (atomsO o').1 = P.1 ∧ (atomsO o').2 = P.2) ∧ ns.length + leftO o' ≤ 16385 ∧ ns.length ≤ 16384 ∧ Fr b w wr ∧ wr.ownsRow w.heap.size 40 2 v ns.length (atmC ns) ∧ Hid (mz wr b = leftO o')) (fun _ wr => mz wr b)
  case atStart => exact ⟨[], o, R, ⟨by rw [hP]; exact ⟨rfl, rfl⟩⟩, by simp; exact hlen, by simp, Fr.refl _ _, World.ownsRow_nil _ _ _ _, ⟨R.mz⟩⟩
  case round =>
    clear R hP hlen
    obtain ⟨ns, o', R, H, hl, hl2, F, O, HM⟩ := hrel
    have T := token_any R
    have HR : Hid (RdR wr b o' n) := ⟨R⟩
    have HF : Hid (Fr b w wr) := ⟨F⟩
    by_cases hm : ∃ t r, o' = some (t :: r) ∧ t.kind = 1
    · obtain ⟨t, r, rfl, hk⟩ := hm
      simp only [hdO] at T
      rw [hk] at T
      have HN : Hid ((ns ++ [⟨t.text, t.num⟩]) ++ (atomsO (some r)).1 = P.1 ∧ (atomsO (some r)).2 = P.2) := ⟨by
        have := H.out
        simp only [atomsO, pAtoms, if_pos (show t.kind = 1 ∨ t.kind = 4 from by omega)] at this
        simpa [atomsO] using this⟩
      simp only [leftO, List.length_cons] at hl HM
      have T2 := fun (w1 : World) (B1 : Below wr.heap.size wr w1) => token_any (R.below B1)
      simp only [hdO] at T2
      rw [hk] at T2
      obtain ⟨i0, hi, hz0, hz1, hz2⟩ := info_parts info84
      have HO : Hid (wr.ownsRow w.heap.size 40 2 u3 ns.length (atmC ns)) := ⟨O⟩
      have sF := F.size
      clear R H F O
      go_wp2_with (first
        | (go_at_call 39; refine T.mono ?_; rintro e w1 ⟨rfl, B1⟩; have sB1 := B1.size; clear T)
        | (go_at_call 39; refine (T2 _ B1).mono ?_; rintro e w2 ⟨rfl, B2⟩; have B12 := bal (B1.trans (Joins.below_le B2 B1.size)) (.cells #[.int .i64 1, .string (str t.text), .int .i64 t.num, .int .i64 t.at'] 70); have sB2 := B12.size; have O2 := own_fr HO.out (Fr.of_below (b := b) B12) lt)
        | (at_builtin; refine wpList_append_lies _ rfl _ _ 41 rfl w.heap.size 40 i0 _ 2 24 Tryd.underlying41 hi hz0 hz1 hz2 rfl (by decide) u3 ns.length (atmC ns) rfl (own_alloc O2 _) ⟨w2.heap.size + 1, 0, none⟩ 1 1 [.string (str t.text), .int .i64 t.num] rfl rfl (news1 w2 _ #[.string (str t.text), .int .i64 t.num] 40) (by simp [Value.oneCell']) (by decide) (by unfold maxLen; omega) (by omega) (by simp at sB2 ⊢; omega) _ rfl ?_; intro q cap1 w3 ho hg hat hlt; have R3 := ((HR.out.below B12).alloc (.cells #[.string (str t.text), .int .i64 t.num] 40)).kept hg (fun i hi => by have := (O2.lt i hi).1; omega); have F3 := ((HF.out.trans (Fr.of_below B12)).alloc (.cells #[.string (str t.text), .int .i64 t.num] 40)).row (own_alloc O2 _) hg; clear hg hat hlt hi hz0 hz1 hz2)
        | (go_at_call 23; refine (on_any R3 (fun l e z => by cases e; cases z)).mono ?_; rintro e w4 ⟨rfl, F4, R4⟩; have O4 := own_fr ho F4 lt; simp only [Option.map_some, List.tail_cons] at R4))
      refine ⟨⟨ns ++ [⟨t.text, t.num⟩], some r, R4, HN, by simp only [leftO, List.length_append, List.length_cons, List.length_nil]; omega, by simp; omega, F3.trans F4, ?_, ⟨R4.mz⟩⟩, ?_⟩
      · rw [atmC_snoc, List.length_append]
        exact O4
      · rw [R4.mz, HM.out]
        simp only [leftO]
        omega
    by_cases hm4 : ∃ t r, o' = some (t :: r) ∧ t.kind = 4
    · obtain ⟨t, r, rfl, hk⟩ := hm4
      clear hm
      simp only [hdO] at T
      rw [hk] at T
      have HN : Hid ((ns ++ [⟨t.text, t.num⟩]) ++ (atomsO (some r)).1 = P.1 ∧ (atomsO (some r)).2 = P.2) := ⟨by
        have := H.out
        simp only [atomsO, pAtoms, if_pos (show t.kind = 1 ∨ t.kind = 4 from by omega)] at this
        simpa [atomsO] using this⟩
      simp only [leftO, List.length_cons] at hl HM
      have TT := fun (w1 : World) (B1 : Below wr.heap.size wr w1) => token_any (R.below B1)
      simp only [hdO] at TT
      rw [hk] at TT
      have T2 := fun (w1 : World) (B1 : Below wr.heap.size wr w1) => token_any (R.below B1)
      simp only [hdO] at T2
      rw [hk] at T2
      obtain ⟨i0, hi, hz0, hz1, hz2⟩ := info_parts info84
      have HO : Hid (wr.ownsRow w.heap.size 40 2 u3 ns.length (atmC ns)) := ⟨O⟩
      have sF := F.size
      clear R H F O
      go_wp2_with (first
        | (go_at_call 39; refine T.mono ?_; rintro e w1 ⟨rfl, B1⟩; have sB1 := B1.size; clear T)
        | (go_at_call 39; refine (TT _ B1).mono ?_; rintro e w5 ⟨rfl, B5'⟩; have B5 := B1.trans (Joins.below_le B5' B1.size); have sB5 := B5.size; clear TT)
        | (go_at_call 39; refine (T2 _ B5).mono ?_; rintro e w2 ⟨rfl, B2⟩; have B12 := bal (B5.trans (Joins.below_le B2 B5.size)) (.cells #[.int .i64 4, .string (str t.text), .int .i64 t.num, .int .i64 t.at'] 70); have sB2 := B12.size; have O2 := own_fr HO.out (Fr.of_below (b := b) B12) lt)
        | (at_builtin; refine wpList_append_lies _ rfl _ _ 41 rfl w.heap.size 40 i0 _ 2 24 Tryd.underlying41 hi hz0 hz1 hz2 rfl (by decide) u3 ns.length (atmC ns) rfl (own_alloc O2 _) ⟨w2.heap.size + 1, 0, none⟩ 1 1 [.string (str t.text), .int .i64 t.num] rfl rfl (news1 w2 _ #[.string (str t.text), .int .i64 t.num] 40) (by simp [Value.oneCell']) (by decide) (by unfold maxLen; omega) (by omega) (by simp at sB2 ⊢; omega) _ rfl ?_; intro q cap1 w3 ho hg hat hlt; have R3 := ((HR.out.below B12).alloc (.cells #[.string (str t.text), .int .i64 t.num] 40)).kept hg (fun i hi => by have := (O2.lt i hi).1; omega); have F3 := ((HF.out.trans (Fr.of_below B12)).alloc (.cells #[.string (str t.text), .int .i64 t.num] 40)).row (own_alloc O2 _) hg; clear hg hat hlt hi hz0 hz1 hz2)
        | (go_at_call 23; refine (on_any R3 (fun l e z => by cases e; cases z)).mono ?_; rintro e w4 ⟨rfl, F4, R4⟩; have O4 := own_fr ho F4 lt; simp only [Option.map_some, List.tail_cons] at R4))
      refine ⟨⟨ns ++ [⟨t.text, t.num⟩], some r, R4, HN, by simp only [leftO, List.length_append, List.length_cons, List.length_nil]; omega, by simp; omega, F3.trans F4, ?_, ⟨R4.mz⟩⟩, ?_⟩
      · rw [atmC_snoc, List.length_append]
        exact O4
      · rw [R4.mz, HM.out]
        simp only [leftO]
        omega
    · have hm : ¬ ∃ t r, o' = some (t :: r) ∧ (t.kind = 1 ∨ t.kind = 4) := fun ⟨t, r, e, q⟩ => q.elim (fun q => hm ⟨t, r, e, q⟩) (fun q => hm4 ⟨t, r, e, q⟩)
      obtain ⟨ta, tm, tp, tx, eh, hne, hne4⟩ := hd_ne2 (n := n) hm
      rw [eh] at T
      have T2 := fun (w1 : World) (B1 : Below wr.heap.size wr w1) => token_any (R.below B1)
      rw [eh] at T2
      have hz : atomsO o' = ([], o') := by
        rcases o' with _ | (_ | ⟨t, r⟩)
        · rfl
        · rfl
        · have : ¬ (t.kind = 1 ∨ t.kind = 4) := fun q => hm ⟨t, r, rfl, q⟩
          simp only [atomsO, pAtoms, if_neg this]
      have HZ : Hid (P.1 = ns ∧ P.2 = o') := ⟨by
        have := H.out
        rw [hz] at this
        simp only [List.append_nil] at this
        exact ⟨this.1.symm, this.2.symm⟩⟩
      have HO : Hid (wr.ownsRow w.heap.size 40 2 u3 ns.length (atmC ns)) := ⟨O⟩
      clear R H hm hm4 eh hz F O
      go_wp2_with (first
        | (go_at_call 39; refine T.mono ?_; rintro e w1 ⟨rfl, B1⟩; clear T)
        | (go_at_call 39; refine (T2 _ B1).mono ?_; rintro e w2 ⟨rfl, B2⟩))
      go_ret
      obtain ⟨h1, h2⟩ := HZ.out
      rw [h1, h2]
      have B12 := B1.trans (Joins.below_le B2 B1.size)
      exact ⟨_, rfl, HF.out.trans (Fr.of_below B12), HR.out.below B12, own_fr HO.out (Fr.of_below (b := b) B12) lt, hl2⟩
end

end Go.Proofs.YtcbdolflgpmaoaaDoor


/- The document's reader: a thing in the making; what stays above a block; append of any number; steps of the grammar one behind another. -/
namespace Go.Proofs.YtcbdolflgpmaoaaDoor
open Go.RowKit
set_option linter.unusedVariables false
set_option linter.unusedSimpArgs false


theorem isRow_nil (w : World) (ok : Nat → Prop) (xs : List Value) : IsRow w ok xs 0 (.slice none 0 0) := ⟨none, 0, rfl, ⟨Nat.le_refl _, by decide⟩, fun z => absurd z (Nat.lt_irrefl 0)⟩
theorem isRow_one {w : World} {ok : Nat → Prop} {g : Nat} {cs : Array Value} {t : TypeId} {xs : List Value} (h : Blk w g cs t) (ho : ok g) (hx : cs.toList = xs) : IsRow w ok xs 1 (.slice (some ⟨g, 0, none⟩) 1 1) :=
  ⟨_, 1, rfl, ⟨Nat.le_refl _, by decide⟩, fun _ => ⟨g, 0, rfl, ho, fun j u hj => by rw [Nat.zero_add, h.cell j]; rw [← hx] at hj; simpa using hj⟩⟩
/-- a thing in the making: the result's block M, its own block X, the reader -/
structure Ob (w W : World) (b M X : Nat) (n : Int) (o : Option (List Tok)) (zs : Array Value) (tM : TypeId) (cs : Array Value) (tX : TypeId) : Prop where
  rd : RdR W b o n
  fr : Fr b w W
  m : Blk W M zs tM
  x : Blk W X cs tX
  lo : b < w.heap.size ∧ w.heap.size ≤ M ∧ M < X
section
variable {w W W' : World} {b M X : Nat} {n : Int} {l l' : Option (List Tok)} {zs cs : Array Value} {tM tX : TypeId}
theorem Ob.kept {row : Option Nat} (h : Ob w W b M X n l zs tM cs tX) (k : W.grownBy W' row) (hr : ∀ i, row = some i → X < i) : Ob w W' b M X n l zs tM cs tX :=
  ⟨h.rd.kept k (fun i e => by have := hr i e; have := h.lo; omega), h.fr.grown k (fun i e => by have := hr i e; have := h.lo; omega), h.m.kept k (fun e => by have := hr _ e; have := h.lo; omega), h.x.kept k (fun e => by have := hr _ e; omega), h.lo⟩
theorem Ob.alloc (h : Ob w W b M X n l zs tM cs tX) (o : Obj) : Ob w (W.alloc o) b M X n l zs tM cs tX := h.kept (grown_alloc _ _) (fun i e => by cases e)
theorem Ob.drew (h : Ob w W b M X n l zs tM cs tX) : Ob w W.drew b M X n l zs tM cs tX := h.kept (grown_drew _) (fun i e => by cases e)
theorem Ob.call (h : Ob w W b M X n l zs tM cs tX) (F : Fr b W W') (R : RdR W' b l' n) : Ob w W' b M X n l' zs tM cs tX :=
  ⟨R, h.fr.trans F, h.m.kept F (fun e => by cases e; have := h.lo; omega), h.x.kept F (fun e => by cases e; have := h.lo; omega), h.lo⟩
theorem Ob.below (h : Ob w W b M X n l zs tM cs tX) (B : Below W.heap.size W W') : Ob w W' b M X n l zs tM cs tX := h.call (Fr.of_below B) (h.rd.below B)
theorem Ob.row {size m : Nat} {e : TypeId} {v : Value} {xs : List Value} (h : Ob w W b M X n l zs tM cs tX) (o : W.ownsRow (X + 1) e size v m xs) (k : W.grownBy W' v.ownBlock) : Ob w W' b M X n l zs tM cs tX :=
  h.kept k (fun i hi => (o.lt i hi).1)
theorem Ob.store (h : Ob w W b M X n l zs tM cs tX) (j : Nat) (v : Value) : Ob w (W.setCell ⟨X, j, none⟩ v) b M X n l zs tM (cs.setIfInBounds j v) tX :=
  have g : W.grownBy (W.setCell ⟨X, j, none⟩ v) (some X) := z_grown_set W X j v
  ⟨h.rd.kept g (fun i e => by cases e; have := h.lo; omega), h.fr.grown g (fun i e => by cases e; have := h.lo; omega), h.m.kept g (fun e => by cases e; have := h.lo; omega), Joins.block_setCell h.x v, h.lo⟩
theorem Ob.lts (h : Ob w W b M X n l zs tM cs tX) : b < W.heap.size ∧ M < W.heap.size ∧ X < W.heap.size := ⟨h.rd.lt, h.m.lt, h.x.lt⟩
theorem Ob.out (h : Ob w W b M X n l zs tM cs tX) (vs : Array Value) : Fr b w (W.setRow M vs) ∧ RdR (W.setRow M vs) b l n :=
  ⟨h.fr.grown (grown_setRow W M vs) (fun i e => by cases e; exact h.lo.2.1), h.rd.kept (grown_setRow W M vs) (fun i e => by cases e; have := h.lo; omega)⟩
end
theorem own_lit {w3 : World} {X : Nat} (hX : X < w3.heap.size) (v : Value) (t : TypeId) : (w3.alloc (.cells #[v] t)).ownsRow (X + 1) t 1 (.slice (some ⟨w3.heap.size, 0, none⟩) 1 1) 1 [v] :=
  ⟨rfl, .inr ⟨w3.heap.size, 1, #[v], rfl, hX, heap_alloc_new w3 _, Nat.le_refl _, by decide, rfl, rfl⟩⟩

/-- what lies at B or above stays -/
structure Abv (B : Nat) (w w' : World) : Prop where
  size : w.heap.size ≤ w'.heap.size
  blk : ∀ i, B ≤ i → i < w.heap.size → w'.heap[i]? = w.heap[i]?
section
variable {B : Nat} {w w1 w2 : World}
theorem Abv.refl (B : Nat) (w : World) : Abv B w w := ⟨Nat.le_refl _, fun _ _ _ => rfl⟩
theorem Abv.grown {row : Option Nat} (h : Abv B w w1) (k : w1.grownBy w2 row) (hr : ∀ i, row = some i → i < B) : Abv B w w2 :=
  ⟨Nat.le_trans h.size k.size, fun i hB hi => (k.block i (Nat.lt_of_lt_of_le hi h.size) (fun e => by have := hr i e.symm; omega)).trans (h.blk i hB hi)⟩
theorem Abv.row {base size n : Nat} {e : TypeId} {v : Value} {xs : List Value} (h : Abv B w w1) (k : w1.grownBy w2 v.ownBlock) (ho : ∀ i, v.ownBlock = some i → i < B) : Abv B w w2 := h.grown k ho
theorem Abv.fr {b : Nat} (h : Abv B w w1) (k : Fr b w1 w2) (hb : b < B) : Abv B w w2 := h.grown k (fun i e => by cases e; exact hb)
theorem Abv.below (h : Abv B w w1) (k : Below w1.heap.size w1 w2) : Abv B w w2 := ⟨Nat.le_trans h.size k.size, fun i hB hi => (k.block i (Nat.lt_of_lt_of_le hi h.size)).trans (h.blk i hB hi)⟩
theorem Abv.set (h : Abv B w w1) {X : Nat} (hX : X < B) (j : Nat) (v : Value) : Abv B w (w1.setCell ⟨X, j, none⟩ v) := h.grown (z_grown_set w1 X j v) (fun i e => by cases e; exact hX)
theorem Abv.setRow (h : Abv B w w1) {X : Nat} (hX : X < B) (cs : Array Value) : Abv B w (w1.setRow X cs) := h.grown (grown_setRow w1 X cs) (fun i e => by cases e; exact hX)
theorem Abv.alloc (h : Abv B w w1) (o : Obj) : Abv B w (w1.alloc o) := h.grown (grown_alloc _ _) (fun i e => by cases e)
theorem Abv.drew (h : Abv B w w1) : Abv B w w1.drew := h.grown (grown_drew _) (fun i e => by cases e)
theorem Abv.keeps {w0 wv : World} (h : Abv B w w1) (hB : B ≤ wv.heap.size) (h0 : w0.heap.size ≤ wv.heap.size) : Keeps (new wv w) (new w0 w1) w w1 :=
  ⟨fun g off u hg hc => by
    have hb := h.blk g (by have := hg.1; omega) hg.2
    have e : w1.cell? ⟨g, off, none⟩ = w.cell? ⟨g, off, none⟩ := by simp only [World.cell?, hb]
    rw [e]; exact hc, fun g hg => ⟨by have := hg.1; omega, by have := hg.2; have := h.size; omega⟩⟩
end

theorem Ob.store11 {w W : World} {b M X : Nat} {n : Int} {l : Option (List Tok)} {zs : Array Value} {tM tX : TypeId} {a0 a1 a2 a3 a4 a5 a6 a7 a8 a9 a10 : Value} (h : Ob w W b M X n l zs tM #[a0, a1, a2, a3, a4, a5, a6, a7, a8, a9, a10] tX) (v0 v1 v2 v3 v4 v5 v6 v7 : Value) :
    Ob w ((((((((W.setCell ⟨X, 3, none⟩ v0).setCell ⟨X, 4, none⟩ v1).setCell ⟨X, 5, none⟩ v2).setCell ⟨X, 6, none⟩ v3).setCell ⟨X, 7, none⟩ v4).setCell ⟨X, 8, none⟩ v5).setCell ⟨X, 9, none⟩ v6).setCell ⟨X, 10, none⟩ v7) b M X n l zs tM #[a0, a1, a2, v0, v1, v2, v3, v4, v5, v6, v7] tX := by
  have h0 : Ob w (W.setCell ⟨X, 3, none⟩ v0) b M X n l zs tM #[a0, a1, a2, v0, a4, a5, a6, a7, a8, a9, a10] tX := h.store 3 v0
  have h1 : Ob w ((W.setCell ⟨X, 3, none⟩ v0).setCell ⟨X, 4, none⟩ v1) b M X n l zs tM #[a0, a1, a2, v0, v1, a5, a6, a7, a8, a9, a10] tX := h0.store 4 v1
  have h2 : Ob w (((W.setCell ⟨X, 3, none⟩ v0).setCell ⟨X, 4, none⟩ v1).setCell ⟨X, 5, none⟩ v2) b M X n l zs tM #[a0, a1, a2, v0, v1, v2, a6, a7, a8, a9, a10] tX := h1.store 5 v2
  have h3 : Ob w ((((W.setCell ⟨X, 3, none⟩ v0).setCell ⟨X, 4, none⟩ v1).setCell ⟨X, 5, none⟩ v2).setCell ⟨X, 6, none⟩ v3) b M X n l zs tM #[a0, a1, a2, v0, v1, v2, v3, a7, a8, a9, a10] tX := h2.store 6 v3
  have h4 : Ob w (((((W.setCell ⟨X, 3, none⟩ v0).setCell ⟨X, 4, none⟩ v1).setCell ⟨X, 5, none⟩ v2).setCell ⟨X, 6, none⟩ v3).setCell ⟨X, 7, none⟩ v4) b M X n l zs tM #[a0, a1, a2, v0, v1, v2, v3, v4, a8, a9, a10] tX := h3.store 7 v4
  have h5 : Ob w ((((((W.setCell ⟨X, 3, none⟩ v0).setCell ⟨X, 4, none⟩ v1).setCell ⟨X, 5, none⟩ v2).setCell ⟨X, 6, none⟩ v3).setCell ⟨X, 7, none⟩ v4).setCell ⟨X, 8, none⟩ v5) b M X n l zs tM #[a0, a1, a2, v0, v1, v2, v3, v4, v5, a9, a10] tX := h4.store 8 v5
  have h6 : Ob w (((((((W.setCell ⟨X, 3, none⟩ v0).setCell ⟨X, 4, none⟩ v1).setCell ⟨X, 5, none⟩ v2).setCell ⟨X, 6, none⟩ v3).setCell ⟨X, 7, none⟩ v4).setCell ⟨X, 8, none⟩ v5).setCell ⟨X, 9, none⟩ v6) b M X n l zs tM #[a0, a1, a2, v0, v1, v2, v3, v4, v5, v6, a10] tX := h5.store 9 v6
  have h7 : Ob w ((((((((W.setCell ⟨X, 3, none⟩ v0).setCell ⟨X, 4, none⟩ v1).setCell ⟨X, 5, none⟩ v2).setCell ⟨X, 6, none⟩ v3).setCell ⟨X, 7, none⟩ v4).setCell ⟨X, 8, none⟩ v5).setCell ⟨X, 9, none⟩ v6).setCell ⟨X, 10, none⟩ v7) b M X n l zs tM #[a0, a1, a2, v0, v1, v2, v3, v4, v5, v6, v7] tX := h6.store 10 v7
  exact h7
theorem Ob.store13 {w W : World} {b M X : Nat} {n : Int} {l : Option (List Tok)} {zs : Array Value} {tM tX : TypeId} {a0 a1 a2 a3 a4 a5 a6 a7 a8 a9 a10 a11 a12 : Value} (h : Ob w W b M X n l zs tM #[a0, a1, a2, a3, a4, a5, a6, a7, a8, a9, a10, a11, a12] tX) (v0 v1 v2 v3 v4 v5 v6 v7 : Value) :
    Ob w ((((((((W.setCell ⟨X, 5, none⟩ v0).setCell ⟨X, 6, none⟩ v1).setCell ⟨X, 7, none⟩ v2).setCell ⟨X, 8, none⟩ v3).setCell ⟨X, 9, none⟩ v4).setCell ⟨X, 10, none⟩ v5).setCell ⟨X, 11, none⟩ v6).setCell ⟨X, 12, none⟩ v7) b M X n l zs tM #[a0, a1, a2, a3, a4, v0, v1, v2, v3, v4, v5, v6, v7] tX := by
  have h0 : Ob w (W.setCell ⟨X, 5, none⟩ v0) b M X n l zs tM #[a0, a1, a2, a3, a4, v0, a6, a7, a8, a9, a10, a11, a12] tX := h.store 5 v0
  have h1 : Ob w ((W.setCell ⟨X, 5, none⟩ v0).setCell ⟨X, 6, none⟩ v1) b M X n l zs tM #[a0, a1, a2, a3, a4, v0, v1, a7, a8, a9, a10, a11, a12] tX := h0.store 6 v1
  have h2 : Ob w (((W.setCell ⟨X, 5, none⟩ v0).setCell ⟨X, 6, none⟩ v1).setCell ⟨X, 7, none⟩ v2) b M X n l zs tM #[a0, a1, a2, a3, a4, v0, v1, v2, a8, a9, a10, a11, a12] tX := h1.store 7 v2
  have h3 : Ob w ((((W.setCell ⟨X, 5, none⟩ v0).setCell ⟨X, 6, none⟩ v1).setCell ⟨X, 7, none⟩ v2).setCell ⟨X, 8, none⟩ v3) b M X n l zs tM #[a0, a1, a2, a3, a4, v0, v1, v2, v3, a9, a10, a11, a12] tX := h2.store 8 v3
  have h4 : Ob w (((((W.setCell ⟨X, 5, none⟩ v0).setCell ⟨X, 6, none⟩ v1).setCell ⟨X, 7, none⟩ v2).setCell ⟨X, 8, none⟩ v3).setCell ⟨X, 9, none⟩ v4) b M X n l zs tM #[a0, a1, a2, a3, a4, v0, v1, v2, v3, v4, a10, a11, a12] tX := h3.store 9 v4
  have h5 : Ob w ((((((W.setCell ⟨X, 5, none⟩ v0).setCell ⟨X, 6, none⟩ v1).setCell ⟨X, 7, none⟩ v2).setCell ⟨X, 8, none⟩ v3).setCell ⟨X, 9, none⟩ v4).setCell ⟨X, 10, none⟩ v5) b M X n l zs tM #[a0, a1, a2, a3, a4, v0, v1, v2, v3, v4, v5, a11, a12] tX := h4.store 10 v5
  have h6 : Ob w (((((((W.setCell ⟨X, 5, none⟩ v0).setCell ⟨X, 6, none⟩ v1).setCell ⟨X, 7, none⟩ v2).setCell ⟨X, 8, none⟩ v3).setCell ⟨X, 9, none⟩ v4).setCell ⟨X, 10, none⟩ v5).setCell ⟨X, 11, none⟩ v6) b M X n l zs tM #[a0, a1, a2, a3, a4, v0, v1, v2, v3, v4, v5, v6, a12] tX := h5.store 11 v6
  have h7 : Ob w ((((((((W.setCell ⟨X, 5, none⟩ v0).setCell ⟨X, 6, none⟩ v1).setCell ⟨X, 7, none⟩ v2).setCell ⟨X, 8, none⟩ v3).setCell ⟨X, 9, none⟩ v4).setCell ⟨X, 10, none⟩ v5).setCell ⟨X, 11, none⟩ v6).setCell ⟨X, 12, none⟩ v7) b M X n l zs tM #[a0, a1, a2, a3, a4, v0, v1, v2, v3, v4, v5, v6, v7] tX := h6.store 12 v7
  exact h7
theorem Ob.store8 {w W : World} {b M X : Nat} {n : Int} {l : Option (List Tok)} {zs : Array Value} {tM tX : TypeId} {a0 a1 a2 a3 a4 a5 a6 a7 : Value} (h : Ob w W b M X n l zs tM #[a0, a1, a2, a3, a4, a5, a6, a7] tX) (v0 v1 v2 v3 v4 v5 v6 v7 : Value) :
    Ob w ((((((((W.setCell ⟨X, 0, none⟩ v0).setCell ⟨X, 1, none⟩ v1).setCell ⟨X, 2, none⟩ v2).setCell ⟨X, 3, none⟩ v3).setCell ⟨X, 4, none⟩ v4).setCell ⟨X, 5, none⟩ v5).setCell ⟨X, 6, none⟩ v6).setCell ⟨X, 7, none⟩ v7) b M X n l zs tM #[v0, v1, v2, v3, v4, v5, v6, v7] tX := by
  have h0 : Ob w (W.setCell ⟨X, 0, none⟩ v0) b M X n l zs tM #[v0, a1, a2, a3, a4, a5, a6, a7] tX := h.store 0 v0
  have h1 : Ob w ((W.setCell ⟨X, 0, none⟩ v0).setCell ⟨X, 1, none⟩ v1) b M X n l zs tM #[v0, v1, a2, a3, a4, a5, a6, a7] tX := h0.store 1 v1
  have h2 : Ob w (((W.setCell ⟨X, 0, none⟩ v0).setCell ⟨X, 1, none⟩ v1).setCell ⟨X, 2, none⟩ v2) b M X n l zs tM #[v0, v1, v2, a3, a4, a5, a6, a7] tX := h1.store 2 v2
  have h3 : Ob w ((((W.setCell ⟨X, 0, none⟩ v0).setCell ⟨X, 1, none⟩ v1).setCell ⟨X, 2, none⟩ v2).setCell ⟨X, 3, none⟩ v3) b M X n l zs tM #[v0, v1, v2, v3, a4, a5, a6, a7] tX := h2.store 3 v3
  have h4 : Ob w (((((W.setCell ⟨X, 0, none⟩ v0).setCell ⟨X, 1, none⟩ v1).setCell ⟨X, 2, none⟩ v2).setCell ⟨X, 3, none⟩ v3).setCell ⟨X, 4, none⟩ v4) b M X n l zs tM #[v0, v1, v2, v3, v4, a5, a6, a7] tX := h3.store 4 v4
  have h5 : Ob w ((((((W.setCell ⟨X, 0, none⟩ v0).setCell ⟨X, 1, none⟩ v1).setCell ⟨X, 2, none⟩ v2).setCell ⟨X, 3, none⟩ v3).setCell ⟨X, 4, none⟩ v4).setCell ⟨X, 5, none⟩ v5) b M X n l zs tM #[v0, v1, v2, v3, v4, v5, a6, a7] tX := h4.store 5 v5
  have h6 : Ob w (((((((W.setCell ⟨X, 0, none⟩ v0).setCell ⟨X, 1, none⟩ v1).setCell ⟨X, 2, none⟩ v2).setCell ⟨X, 3, none⟩ v3).setCell ⟨X, 4, none⟩ v4).setCell ⟨X, 5, none⟩ v5).setCell ⟨X, 6, none⟩ v6) b M X n l zs tM #[v0, v1, v2, v3, v4, v5, v6, a7] tX := h5.store 6 v6
  have h7 : Ob w ((((((((W.setCell ⟨X, 0, none⟩ v0).setCell ⟨X, 1, none⟩ v1).setCell ⟨X, 2, none⟩ v2).setCell ⟨X, 3, none⟩ v3).setCell ⟨X, 4, none⟩ v4).setCell ⟨X, 5, none⟩ v5).setCell ⟨X, 6, none⟩ v6).setCell ⟨X, 7, none⟩ v7) b M X n l zs tM #[v0, v1, v2, v3, v4, v5, v6, v7] tX := h6.store 7 v7
  exact h7
theorem Abv.set8 {B : Nat} {w w1 : World} (h : Abv B w w1) {X : Nat} (hX : X < B) (i : Nat) (v0 v1 v2 v3 v4 v5 v6 v7 : Value) : Abv B w ((((((((w1.setCell ⟨X, i, none⟩ v0).setCell ⟨X, i + 1, none⟩ v1).setCell ⟨X, i + 2, none⟩ v2).setCell ⟨X, i + 3, none⟩ v3).setCell ⟨X, i + 4, none⟩ v4).setCell ⟨X, i + 5, none⟩ v5).setCell ⟨X, i + 6, none⟩ v6).setCell ⟨X, i + 7, none⟩ v7) :=
  (((((((h.set hX _ _).set hX _ _).set hX _ _).set hX _ _).set hX _ _).set hX _ _).set hX _ _).set hX _ _

theorem own_le {W : World} {base size m : Nat} {e : TypeId} {v : Value} {xs : List Value} (h : W.ownsRow base e size v m xs) : ∃ ga cap, v = .slice ga m cap ∧ m ≤ cap ∧ (0 < m → ∃ g, ga = some ⟨g, 0, none⟩ ∧ ∀ j u, xs[j]? = some u → W.cell? ((⟨g, 0, none⟩ : Addr).add j) = some u) := by
  have h2 := h.2
  rcases h2 with ⟨rfl, h0⟩ | ⟨g, cap, cur, rfl, _, _, hc, _⟩
  · exact ⟨none, 0, by rw [h0], by omega, fun z => by omega⟩
  · exact ⟨_, _, rfl, hc, fun _ => ⟨g, rfl, h.cells rfl⟩⟩
/-- append of a list of any number, in a region that draws its order -/
theorem step_append_any {P : Program} {w : World} {ops : Array Oper} {o : Oper} {a : Act} {K : Act → World → Prop} {Q : Exit → Act → World → Prop} {E : Prop} (hgd : o.guard = none) (s x : Operand) (t : TypeId)
    (ho : o.op = .call { callee := .builtin .append, args := #[s, x], argTypes := #[t, t] })
    (base : Nat) (e : TypeId) (i : TypeInfo) (z : Value) (size bytes : Nat) (ht : P.underlying t = some (.slice e)) (hi : P.info? e = some i) (hz : i.zero = some z)
    (hsize : i.size = size) (hby : i.bytes = bytes) (hzs : z.cells.size = size) (hsz : 0 < size)
    (v : Value) (n : Nat) (xs : List Value) (hs : a.eval s = v) (hown : w.ownsRow base e size v n xs)
    (base2 : Nat) (v2 : Value) (m : Nat) (news : List Value) (hx : a.eval x = v2) (hown2 : w.ownsRow base2 e size v2 m news) (hl : news.length = m * size) (h1 : ∀ u ∈ news, u.oneCell' = true)
    (h63 : n + m ≤ maxLen) (hbytes : (n + m) * bytes ≤ 140737488355328) (hbase : base ≤ w.heap.size)
    (h : ∀ ga' cap' w', w'.ownsRow base e size (.slice ga' (n + m) cap') (n + m) (xs ++ news) → w.grownBy w' v.ownBlock → K (a.put o.dst (.slice ga' (n + m) cap')) w') :
    if Region.wanted o (yielded ops a.tmps) = true then Oper.wp P o a w K Q else E := by
  have hw : Region.wanted o (yielded ops a.tmps) = true := by simp [Region.wanted, hgd]
  rw [if_pos hw]
  obtain ⟨ga, c, rfl, hle2, hc2⟩ := own_le hown2
  rcases Nat.eq_zero_or_pos m with rfl | hm
  · have hn : news = [] := List.eq_nil_of_length_eq_zero (by simpa using hl)
    subst hn
    obtain ⟨gu, cu, rfl, hle, _⟩ := own_le hown
    have hr := run_append_zero (P := P) w t o.type e i ht hi gu n cu hle ga c
    unfold Oper.wp execOp
    simp only [ho, resolve, invoke, builtin, Sem.run_bind, Sem.run_pure, Result.andThen_ok, List.map_toArray, List.map_cons, List.map_nil, hs, hx, hr]
    exact h gu cu w (by simpa using hown) ⟨rfl, rfl, rfl, Nat.le_refl _, fun _ _ _ => rfl⟩
  · obtain ⟨g2, rfl, hc⟩ := hc2 hm
    obtain ⟨g, cap, w', hr, h2, h3, _, _⟩ := run_append_lies (P := P) w t o.type base e i z size bytes ht hi hz hsize hby hzs hsz v n xs hown ⟨g2, 0, none⟩ m c news hl hc h1 hm h63 hbytes hbase _ rfl
    unfold Oper.wp execOp
    simp only [ho, resolve, invoke, builtin, Sem.run_bind, Sem.run_pure, Result.andThen_ok, List.map_toArray, List.map_cons, List.map_nil, hs, hx, hr]
    exact h _ cap w' h2 h3

/-! steps one behind another -/
theorem runO_none {α : Type} (p : List Tok → PR α) : runO p none = none := rfl
theorem valO_none {α : Type} (p : List Tok → PR α) : valO p none = none := rfl
theorem val_run {α : Type} {p : List Tok → PR α} {o : Option (List Tok)} (h : valO p o = none) : runO p o = none := by
  cases o with
  | none => rfl
  | some l =>
    simp only [valO, runO] at h ⊢
    split at h
    · cases h
    · rfl
theorem run_val {α : Type} {p : List Tok → PR α} {o : Option (List Tok)} (h : runO p o = none) : valO p o = none := by
  cases o with
  | none => rfl
  | some l =>
    simp only [valO, runO] at h ⊢
    split at h
    · cases h
    · rfl
/-- two steps: run by run, value by value -/
structure Stp {α β : Type} (p : List Tok → PR α) (f : α → List Tok → PR β) (q : List Tok → PR β) : Prop where
  eq : ∀ l, q l = andT (p l) f
theorem Stp.some {α β : Type} {p : List Tok → PR α} {f : α → List Tok → PR β} {q : List Tok → PR β} (h : Stp p f q) {o : Option (List Tok)} {a : α} (hv : valO p o = some a) : runO q o = runO (f a) (runO p o) ∧ valO q o = valO (f a) (runO p o) := by
  obtain ⟨l, r, rfl, e, e2⟩ := valO_some hv
  rw [e2]
  simp only [runO, valO, h.eq, e, andT, and_self]
theorem Stp.none {α β : Type} {p : List Tok → PR α} {f : α → List Tok → PR β} {q : List Tok → PR β} (h : Stp p f q) {o : Option (List Tok)} (hv : valO p o = none) : runO q o = none ∧ valO q o = none := by
  cases o with
  | none => exact ⟨rfl, rfl⟩
  | some l =>
    simp only [valO] at hv
    simp only [runO, valO, h.eq]
    split at hv
    · cases hv
    · rename_i e he; simp only [he, andT, and_self]
/-- an answer that is right where there is one -/
def Rt {α : Type} (p : List Tok → PR α) (o : Option (List Tok)) (x : α) : Prop := ∀ y, valO p o = Option.some y → x = y
/-- one step more: what it answers is what the whole does -/
theorem Stp.rt {α β : Type} {p : List Tok → PR α} {f : α → List Tok → PR β} {q : List Tok → PR β} (h : Stp p f q) {o : Option (List Tok)} {a : α} (ha : Rt p o a) : runO q o = runO (f a) (runO p o) ∧ ∀ b, Rt (f a) (runO p o) b → Rt q o b := by
  cases hv : valO p o with
  | none =>
    obtain ⟨h1, h2⟩ := h.none hv
    rw [val_run hv]
    exact ⟨h1, fun b _ y hy => by rw [h2] at hy; cases hy⟩
  | some a' =>
    have e := ha a' hv
    subst e
    obtain ⟨h1, h2⟩ := h.some hv
    exact ⟨h1, fun b hb y hy => hb y (by rw [← h2]; exact hy)⟩
theorem rt_want (s : List UInt8) (o : Option (List Tok)) : Rt (pWant s) o () := fun _ _ => rfl
theorem rt_ret {β : Type} (y : β) (o : Option (List Tok)) : runO (fun r => .ok (y, r)) o = o ∧ Rt (fun r => .ok (y, r)) o y := by
  cases o with
  | none => exact ⟨rfl, fun _ h => by cases h⟩
  | some l => exact ⟨rfl, fun _ h => by cases h; rfl⟩
theorem args_no {o : Option (List Tok)} (h : isR [92] o = false) : runO pArgs o = o ∧ Rt pArgs o [] := by
  cases o with
  | none => exact ⟨rfl, fun _ h => by cases h⟩
  | some l =>
    have h : isS [92] l = false := h
    exact ⟨by simp [runO, pArgs, h], fun y hy => by simp [valO, pArgs, h] at hy; exact hy.symm⟩
theorem args_yes {o : Option (List Tok)} (h : isR [92] o = true) {t : Tok} (ht : Rt (pKind 1) (o.map List.tail) t) :
    runO pArgs o = runO (pWant [45, 62]) (namesO (runO (pKind 1) (o.map List.tail))).2 ∧ Rt pArgs o (t.text :: (namesO (runO (pKind 1) (o.map List.tail))).1) := by
  cases o with
  | none => cases h
  | some l =>
    have h : isS [92] l = true := h
    simp only [Option.map_some] at ht ⊢
    rcases e : pKind 1 l.tail with ⟨c, r⟩ | ⟨a, r⟩
    · have e1 : runO (pKind 1) (some l.tail) = none := by simp [runO, e]
      rw [e1]
      exact ⟨by simp [runO, pArgs, h, e, andT, namesO], fun y hy => by simp [valO, pArgs, h, e, andT] at hy⟩
    · obtain ⟨e1, e2⟩ := runO_some (p := pKind 1) e
      have := ht a e2
      subst this
      rw [e1]
      simp only [namesO]
      rcases e3 : pWant [45, 62] (pNames r).2 with ⟨c, q⟩ | ⟨u, q⟩
      · exact ⟨by simp [runO, pArgs, h, e, andT, e3], fun y hy => by simp [valO, pArgs, h, e, andT, e3] at hy⟩
      · exact ⟨by simp [runO, pArgs, h, e, andT, e3], fun y hy => by simp [valO, pArgs, h, e, andT, e3] at hy; exact hy⟩
theorem bind_rt {ex : List Tok → PR E} {o o1 o2 o6 o7 : Option (List Tok)} {t : Tok} {ar : List (List UInt8)} {x : E} (h1 : Rt (pKind 1) o t) (e1 : o1 = runO (pKind 1) o) (e2 : o2 = runO (pWant [61]) o1) (h3 : Rt pArgs o2 ar) (e6 : o6 = runO pArgs o2)
    (h7 : Rt ex o6 x) (e7 : o7 = runO ex o6) : runO (pBind ex) o = runO (pWant [59]) o7 ∧ Rt (pBind ex) o (.mk t.text t.at' ar x) := by
  subst e1 e2 e6 e7
  have s1 := (Stp.mk (q := pBind ex) (fun l => rfl)).rt h1
  have s2 := (Stp.mk (p := pWant [61]) (f := fun _ r => andT (pArgs r) fun az r => andT (ex r) fun x r => andT (pWant [59] r) fun _ r => Except.ok (B.mk t.text t.at' az x, r)) (q := fun r => _) (fun l => rfl)).rt (rt_want [61] (runO (pKind 1) o))
  have s3 := (Stp.mk (p := pArgs) (f := fun az r => andT (ex r) fun x r => andT (pWant [59] r) fun _ r => Except.ok (B.mk t.text t.at' az x, r)) (q := fun r => _) (fun l => rfl)).rt h3
  have s4 := (Stp.mk (p := ex) (f := fun x r => andT (pWant [59] r) fun _ r => Except.ok (B.mk t.text t.at' ar x, r)) (q := fun r => _) (fun l => rfl)).rt h7
  have s5 := (Stp.mk (p := pWant [59]) (f := fun _ r => (Except.ok (B.mk t.text t.at' ar x, r) : PR B)) (q := fun r => _) (fun l => rfl)).rt (rt_want [59] (runO ex (runO pArgs (runO (pWant [61]) (runO (pKind 1) o)))))
  have s6 := rt_ret (B.mk t.text t.at' ar x) (runO (pWant [59]) (runO ex (runO pArgs (runO (pWant [61]) (runO (pKind 1) o)))))
  exact ⟨s1.1.trans (s2.1.trans (s3.1.trans (s4.1.trans (s5.1.trans s6.1)))), s1.2 _ (s2.2 _ (s3.2 _ (s4.2 _ (s5.2 _ s6.2))))⟩
/-- an expression's contract; d: how much deeper it may go -/
def ExpR (d : Nat) : Prop := ∀ (k : Int), k = 61 - d → ∀ (w : World) (b : Nat) (o : Option (List Tok)) (n : Int), RdR w b o n → Calls Tryd.prog 42 #[ptr b, .int .i64 k] w fun e w' =>
  Fr b w w' ∧ RdR w' b (runO (pExp d) o) n ∧ ∃ x v, e = .returned v ∧ isEV w' (new w w') x v ∧ Rt (pExp d) o x
def isBV (w : World) (ok : Nat → Prop) (x : B) (v : Value) : Prop := ∃ c, v = .agg c.toArray ∧ isB w ok x c
def isAV (w : World) (ok : Nat → Prop) (x : A) (v : Value) : Prop := ∃ c, v = .agg c.toArray ∧ isA w ok x c
abbrev zero51 : Array Value := #[.string ⟨#[]⟩, .int .i64 0, nil3, .int .i64 0, .int .i64 0, .string ⟨#[]⟩, .int .i64 0, nil3, nil3, nil3, nil3]
theorem size51 : (Tryd.prog.info? 49).map (·.size) = some 11 := by kernel_rfl
theorem size102 : (Tryd.prog.info? 92).map (·.size) = some 13 := by kernel_rfl

end Go.Proofs.YtcbdolflgpmaoaaDoor

