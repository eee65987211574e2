/- Lists of addresses, rising, each once; what the calls answer of them. Nothing here speaks of a program. -/
import Derived.WalkKit
namespace Go.Proofs.YtbdoekffadmejaaGreatDoor.Rm
set_option linter.unusedVariables false

/-- rising, each an address -/
def Gd (l : List Int) : Prop := l.Pairwise (fun a b : Int => a < b) ∧ ∀ x ∈ l, 1 ≤ x ∧ x ≤ 524288
theorem gd_nil : Gd [] := ⟨List.Pairwise.nil, fun x h => by cases h⟩
/-- a list without an address -/
def les (l : List Int) (x : Int) : List Int := l.filter (fun y => y != x)
theorem les_mem (l : List Int) (x y : Int) : y ∈ les l x ↔ y ∈ l ∧ y ≠ x := by simp [les]
theorem Gd.les {l : List Int} (h : Gd l) (x : Int) : Gd (les l x) :=
  ⟨h.1.filter _, fun y hy => h.2 y ((les_mem l x y).1 hy).1⟩
/-- an address put into its place -/
def ins (x : Int) : List Int → List Int
  | [] => [x]
  | r :: t => if x < r then x :: r :: t else r :: ins x t
theorem ins_mem (x y : Int) : ∀ l : List Int, y ∈ ins x l ↔ y = x ∨ y ∈ l
  | [] => by simp [ins]
  | r :: t => by
    unfold ins
    split
    · simp
    · simp only [List.mem_cons, ins_mem x y t]
      constructor
      · rintro (h | h | h) <;> simp [h]
      · rintro (h | h | h) <;> simp [h]
theorem ins_pair (x : Int) : ∀ l : List Int, l.Pairwise (fun a b : Int => a < b) → x ∉ l → (ins x l).Pairwise (fun a b : Int => a < b)
  | [], _, _ => by simp [ins]
  | r :: t, h, hx => by
    unfold ins
    have h1 := List.pairwise_cons.1 h
    split
    · rename_i hlt
      refine List.pairwise_cons.2 ⟨fun y hy => ?_, h⟩
      rcases List.mem_cons.1 hy with rfl | q
      · exact hlt
      · have := h1.1 y q; omega
    · rename_i hge
      refine List.pairwise_cons.2 ⟨fun y hy => ?_, ins_pair x t h1.2 (fun q => hx (List.mem_cons_of_mem _ q))⟩
      rcases (ins_mem x y t).1 hy with rfl | q
      · have : y ≠ r := fun e => hx (by rw [e]; exact List.mem_cons_self)
        omega
      · exact h1.1 y q
/-- put -/
def putL (l : List Int) (x : Int) : List Int := ins x (les l x)
theorem put_mem (l : List Int) (x y : Int) : y ∈ putL l x ↔ y = x ∨ y ∈ l := by
  unfold putL
  rw [ins_mem, les_mem]
  constructor
  · rintro (h | ⟨h, _⟩) <;> simp [h]
  · rintro (h | h)
    · exact .inl h
    · by_cases e : y = x
      · exact .inl e
      · exact .inr ⟨h, e⟩
theorem Gd.put {l : List Int} (h : Gd l) {x : Int} (hx : 1 ≤ x ∧ x ≤ 524288) : Gd (putL l x) :=
  ⟨ins_pair x _ (h.les x).1 (fun q => ((les_mem l x x).1 q).2 rfl), fun y hy => by
    rcases (put_mem l x y).1 hy with rfl | q
    · exact hx
    · exact h.2 y q⟩
theorem pair_nodup {l : List Int} (h : l.Pairwise (fun a b : Int => a < b)) : l.Nodup := h.imp (fun {a b} q e => by omega)
theorem Gd.nodup {l : List Int} (h : Gd l) : l.Nodup := pair_nodup h.1
/-- two rising lists with the same addresses are one -/
theorem gd_ext {l k : List Int} (h : Gd l) (g : Gd k) (e : ∀ x, x ∈ l ↔ x ∈ k) : l = k := by
  have p : l.Perm k := (List.perm_ext_iff_of_nodup h.nodup g.nodup).2 e
  exact List.Perm.eq_of_pairwise (le := fun a b : Int => a < b) (fun a b _ _ h1 h2 => by omega) h.1 g.1 p
/-- no more addresses than there are words -/
theorem Gd.len {l : List Int} (h : Gd l) : l.length ≤ 524288 := by
  have key : ∀ (l : List Int) (lo : Int), l.Pairwise (fun a b : Int => a < b) → (∀ x ∈ l, lo ≤ x ∧ x ≤ 524288) → lo ≤ 524289 → (l.length : Int) ≤ 524289 - lo := by
    intro l
    induction l with
    | nil => intro lo _ _ h; simp; omega
    | cons r t ih =>
      intro lo hp hm hl
      have h1 := List.pairwise_cons.1 hp
      have hr := hm r List.mem_cons_self
      have := ih (r + 1) h1.2 (fun x hx => ⟨by have := h1.1 x hx; omega, (hm x (List.mem_cons_of_mem _ hx)).2⟩) (by omega)
      simp only [List.length_cons]
      omega
  have := key l 1 h.1 h.2 (by omega)
  omega
theorem putL_len {l : List Int} (h : Gd l) {x : Int} (hx : 1 ≤ x ∧ x ≤ 524288) : (putL l x).length = if x ∈ l then l.length else l.length + 1 := by
  have nd := (h.put hx).nodup
  by_cases e : x ∈ l
  · rw [if_pos e]
    rw [gd_ext (h.put hx) h (fun y => by rw [put_mem]; constructor; · rintro (rfl | q); exact e; exact q
                                         · exact .inr)]
  · rw [if_neg e]
    have p : (putL l x).Perm (x :: l) := (List.perm_ext_iff_of_nodup nd (List.nodup_cons.2 ⟨e, h.nodup⟩)).2 (fun y => by rw [put_mem]; simp)
    simpa using p.length_eq
theorem les_len {l : List Int} (h : Gd l) (x : Int) : (les l x).length + (if x ∈ l then 1 else 0) = l.length := by
  by_cases e : x ∈ l
  · rw [if_pos e]
    have p : l.Perm (x :: les l x) := (List.perm_ext_iff_of_nodup h.nodup (List.nodup_cons.2 ⟨fun q => ((les_mem l x x).1 q).2 rfl, (h.les x).nodup⟩)).2 (fun y => by
      simp only [List.mem_cons, les_mem]
      constructor
      · intro q
        by_cases e' : y = x
        · exact .inl e'
        · exact .inr ⟨q, e'⟩
      · rintro (rfl | ⟨q, _⟩)
        · exact e
        · exact q)
    have := p.length_eq
    simp at this
    omega
  · rw [if_neg e]
    rw [gd_ext (h.les x) h (fun y => by rw [les_mem]; constructor; · exact And.left
                                        · intro q; exact ⟨q, fun e' => e (e' ▸ q)⟩)]
    rfl
/-- sorted, whatever the order was -/
theorem sorted_is {l ss : List Int} (h : Gd l) (p : ss.Perm l) : ss.mergeSort (fun x y => decide (x ≤ y)) = l := by
  have tr : ∀ a b c : Int, decide (a ≤ b) = true → decide (b ≤ c) = true → decide (a ≤ c) = true := fun a b c h1 h2 => by simp only [decide_eq_true_eq] at *; omega
  have to : ∀ a b : Int, (decide (a ≤ b) || decide (b ≤ a)) = true := fun a b => by simp only [Bool.or_eq_true, decide_eq_true_eq]; omega
  refine List.Perm.eq_of_pairwise (le := fun a b : Int => a ≤ b) (fun a b _ _ h1 h2 => by omega) ?_ (h.1.imp (fun {a b} q => by omega)) ((List.mergeSort_perm ss _).trans p)
  exact (List.pairwise_mergeSort tr to ss).imp (fun {a b} q => by simpa using q)

/-! ### The document's loops -/
def stepP (x : Int) (s : List Int × Bool) (r : Int) : List Int × Bool := if s.2 = false ∧ x < r then (s.1 ++ [x] ++ [r], true) else (s.1 ++ [r], s.2)
def finP (x : Int) (s : List Int × Bool) : List Int := if s.2 then s.1 else s.1 ++ [x]
theorem fold_done (x : Int) : ∀ (row acc : List Int), row.foldl (stepP x) (acc, true) = (acc ++ row, true)
  | [], acc => by simp
  | r :: t, acc => by
    rw [List.foldl_cons, show stepP x (acc, true) r = (acc ++ [r], true) by simp [stepP], fold_done x t]
    simp
theorem fold_put (x : Int) : ∀ (row acc : List Int), finP x (row.foldl (stepP x) (acc, false)) = acc ++ ins x row
  | [], acc => by simp [finP, ins]
  | r :: t, acc => by
    rw [List.foldl_cons]
    by_cases h : x < r
    · rw [show stepP x (acc, false) r = (acc ++ [x] ++ [r], true) by simp [stepP, h], fold_done]
      simp [finP, ins, h]
    · rw [show stepP x (acc, false) r = (acc ++ [r], false) by simp [stepP, h], fold_put x t]
      simp [ins, h]
theorem put_is (l : List Int) (x : Int) : finP x ((les l x).foldl (stepP x) ([], false)) = putL l x := by
  rw [fold_put]; rfl
theorem les_take (l : List Int) (x : Int) (k : Nat) (h : k < l.length) : les (l.take (k + 1)) x = les (l.take k) x ++ (if l[k] = x then [] else [l[k]]) := by
  rw [List.take_succ_eq_append_getElem h]
  unfold les
  rw [List.filter_append]
  congr 1
  by_cases e : l[k] = x <;> simp [e]
theorem fold_len (x : Int) : ∀ (row : List Int) (s : List Int × Bool), (row.foldl (stepP x) s).1.length ≤ s.1.length + row.length + (if s.2 then 0 else 1)
  | [], s => by simp
  | r :: t, s => by
    rw [List.foldl_cons]
    have := fold_len x t (stepP x s r)
    refine Nat.le_trans this ?_
    obtain ⟨o, d⟩ := s
    simp only [stepP, List.length_cons]
    cases d <;> simp
    · split <;> simp <;> omega
    · omega

/-! ### Lists of generations -/
def upd {α : Type} (f : Nat → α) (i : Nat) (v : α) : Nat → α := fun j => if j = i then v else f j
theorem upd_at {α : Type} (f : Nat → α) (i : Nat) (v : α) : upd f i v i = v := by simp [upd]
theorem upd_far {α : Type} (f : Nat → α) {i j : Nat} (v : α) (h : j ≠ i) : upd f i v j = f j := by simp [upd, h]
theorem upd_self {α : Type} (f : Nat → α) (i : Nat) : upd f i (f i) = f := by funext j; unfold upd; split <;> simp_all
def isl (n : Nat) (gen : Int) : Bool := decide (0 ≤ gen) && decide (gen < (n : Int))
def flt (n : Nat) (gen at' : Int) : Int := if isl n gen = true then (if 1 ≤ at' ∧ at' ≤ 524288 then 0 else 4) else 2
def putS (n : Nat) (L : Nat → List Int) (gen at' : Int) : Nat → List Int := if flt n gen at' = 0 then upd L gen.toNat (putL (L gen.toNat) at') else L
def dropS (n : Nat) (L : Nat → List Int) (gen at' : Int) : Nat → List Int := if flt n gen at' = 0 then upd L gen.toNat (les (L gen.toNat) at') else L
def allS (n : Nat) (L : Nat → List Int) (gen : Int) : List Int := if isl n gen = true then L gen.toNat else []
def takeS (n : Nat) (L : Nat → List Int) (gen : Int) : Nat → List Int := if isl n gen = true then upd L gen.toNat [] else L
def hasS (n : Nat) (L : Nat → List Int) (gen at' : Int) : Bool := isl n gen && decide (at' ∈ L gen.toNat)
def lenS (L : Nat → List Int) : Nat → Nat
  | 0 => 0
  | n + 1 => lenS L n + (L n).length
theorem isl_yes {n : Nat} {gen : Int} (h : isl n gen = true) : 0 ≤ gen ∧ gen < (n : Int) := by simpa [isl] using h
theorem lenS_le {L : Nat → List Int} : ∀ {n : Nat}, (∀ i, i < n → Gd (L i)) → lenS L n ≤ n * 524288
  | 0, _ => by simp [lenS]
  | n + 1, h => by
    have := lenS_le (n := n) (fun i hi => h i (by omega))
    have := (h n (by omega)).len
    simp only [lenS]
    omega
theorem flt_zero {n : Nat} {gen at' : Int} (h : flt n gen at' = 0) : isl n gen = true ∧ 1 ≤ at' ∧ at' ≤ 524288 := by
  unfold flt at h
  split at h
  · split at h
    · rename_i a b; exact ⟨a, b⟩
    · omega
  · omega
theorem putS_gd {n : Nat} {L : Nat → List Int} (h : ∀ i, i < n → Gd (L i)) (gen at' : Int) : ∀ i, i < n → Gd (putS n L gen at' i) := by
  intro i hi
  unfold putS
  split
  · rename_i e
    have e2 := flt_zero e
    unfold upd
    split
    · rename_i q; subst q; exact (h _ hi).put e2.2
    · exact h i hi
  · exact h i hi
theorem dropS_gd {n : Nat} {L : Nat → List Int} (h : ∀ i, i < n → Gd (L i)) (gen at' : Int) : ∀ i, i < n → Gd (dropS n L gen at' i) := by
  intro i hi
  unfold dropS
  split
  · unfold upd
    split
    · rename_i q; subst q; exact (h _ hi).les _
    · exact h i hi
  · exact h i hi
theorem takeS_gd {n : Nat} {L : Nat → List Int} (h : ∀ i, i < n → Gd (L i)) (gen : Int) : ∀ i, i < n → Gd (takeS n L gen i) := by
  intro i hi
  unfold takeS
  split
  · unfold upd
    split
    · exact gd_nil
    · exact h i hi
  · exact h i hi
theorem allS_gd {n : Nat} {L : Nat → List Int} (h : ∀ i, i < n → Gd (L i)) (gen : Int) : Gd (allS n L gen) := by
  unfold allS
  split
  · rename_i e; have := isl_yes e; exact h _ (by omega)
  · exact gd_nil
end Go.Proofs.YtbdoekffadmejaaGreatDoor.Rm
