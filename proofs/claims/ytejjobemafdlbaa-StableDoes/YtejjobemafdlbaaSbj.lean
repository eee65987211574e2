/- Rows of one's own beside a table; the slots of a handle, how many there are. -/
import Derived.Test.YtejjobemafdlbaaActs
namespace Go.Proofs.Ytejjobemafdlbaa
open Go.RowKit
set_option linter.unusedVariables false
set_option linter.unusedSimpArgs false

theorem RowS.kx {w w' : World} {base size n p q : Nat} {e : TypeId} {v : Value} {xs : List Value} (h : RowS w base e size v n xs) (K : Kx p q w w') (hp : p < base) (hq : q < base) : RowS w' base e size v n xs := by
  rcases h with h | ⟨h0, h⟩
  · exact .inl h
  · refine .inr ⟨h0, h.1, ?_⟩
    rcases h.2 with hn | ⟨g, cap, cur, rfl, hb, hgg, rest⟩
    · exact .inl hn
    · exact .inr ⟨g, cap, cur, rfl, hb, K.keep hgg (by omega) (by omega), rest⟩
theorem Tb.old {lo : Nat} {w w' : World} {s sb n m : Nat} {b : Int} {A T : Nat → Int} (h : Tb lo w s sb n b A T) (B : Below m w w') (hm : s < m ∧ sb < m) : Tb lo w' s sb n b A T := by
  obtain ⟨cur, r1, r2⟩ := h.row
  exact ⟨(B.block _ hm.1).trans h.box, ⟨cur, (B.block _ hm.2).trans r1, r2⟩, h.ok, h.le, h.lo⟩
theorem cell_kx {p : Nat} {w w' : World} {g i : Nat} {v : Value} (h : w.cell? ⟨g, i, none⟩ = some v) (K : Kx p p w w') (hg : g ≠ p) : w'.cell? ⟨g, i, none⟩ = some v :=
  (World.cell?_of_block (w := w) (w' := w') (a := ⟨g, i, none⟩) (K.block g (World.block_lt_of_cell? _ _ h) hg hg)).trans h
/-- the numbers of a row -/
theorem RowS.get {w : World} {base : Nat} {v : Value} {l : List Int} {n : Nat} (h : RowS w base 3 1 v n (ints l)) (hn : l.length = n) (j : Nat) (hj : j < n) : ∃ g cap, v = .slice (some ⟨g, 0, none⟩) n cap ∧ base ≤ g ∧ w.cell? ⟨g, j, none⟩ = some (.int .i64 (l.getD j 0)) := by
  rcases h with ⟨h0, _⟩ | ⟨h0, h⟩
  · omega
  · rcases h.2 with ⟨_, h0⟩ | ⟨g, cap, cur, rfl, hb, hg, h1, h2, h3, h4⟩
    · omega
    · refine ⟨g, cap, rfl, hb, ?_⟩
      rw [Joins.cell_of_block hg]
      have e : (cur.toList.take (n * 1))[j]? = (ints l)[j]? := by rw [h4]
      rw [Nat.mul_one, List.getElem?_take_of_lt hj] at e
      have : (ints l)[j]? = some (.int .i64 (l.getD j 0)) := by simp [ints, hn ▸ hj]
      rw [this] at e
      simpa using e
theorem fd_hnd {n : Nat} {b : Int} {A T : Nat → Int} (h : Okt n b A T) (hn : n ≤ 256) {i : Nat} (hi : i < n) (ha : A i ≠ 0) : fd n A T (hnd T i) = i := by
  have q := h i hi
  have hm : (hnd T i).tmod 256 = i := by
    unfold hnd
    rw [Int.tmod_eq_emod_of_nonneg (by omega)]; omega
  have hd : (hnd T i).tdiv 256 = T i := by
    unfold hnd
    rw [Int.tdiv_eq_ediv_of_nonneg (by omega)]; omega
  rw [fd_here h hn hi hm, if_pos ⟨ha, hd.symm⟩]
theorem fd_lt {n : Nat} {A T : Nat → Int} {h : Int} (hf : fd n A T h < n) : A (fd n A T h) ≠ 0 ∧ hnd T (fd n A T h) = h := by
  have := fst_holds (fun i => !(A i == 0) && (hnd T i == h)) n hf
  unfold fd
  simpa using this
theorem fd_le (n : Nat) (A T : Nat → Int) (h : Int) : fd n A T h ≤ n := fst_le _ n
theorem allL_full {A : Nat → Int} : ∀ n, (∀ i, i < n → A i ≠ 0) → (allL A n).length = n
  | 0, _ => rfl
  | n + 1, h => by
    have ih := allL_full n (fun i hi => h i (by omega))
    simp [allL, h n (by omega), ih]
/-- the first k slots hold one more than their numbers -/
def fill (k i : Nat) : Int := if i < k then (i : Int) + 1 else 0
theorem fill_low {n k : Nat} (h : k < n) : lowF n (fill k) = k := fst_is h (by simp [fill]) (fun j hj => by simp [fill, hj]; omega)
theorem fill_full (n : Nat) : lowF n (fill n) = n := fst_none (fun j hj => by simp [fill, hj]; omega)
theorem fill_make {n k : Nat} (h : k < n) (hn : n ≤ 256) : mkE n (fill k) ((k : Int) + 1) = 0 ∧ mkH n (fill k) (fun _ => 1) ((k : Int) + 1) = 256 + k ∧ mkA n (fill k) ((k : Int) + 1) = fill (k + 1) := by
  have ha : isA ((k : Int) + 1) = true := isA_iff.2 ⟨by omega, by omega⟩
  obtain ⟨e1, e2, e3⟩ := mk_yes (T := fun _ => 1) ha (fill_low h) h
  refine ⟨e1, by rw [e2]; omega, ?_⟩
  rw [e3]
  funext i
  unfold upd fill
  split
  · rename_i e; subst e; rw [if_pos (by omega)]
  · split <;> split <;> first | rfl | omega
theorem fill_zero : (fun _ => 0) = fill 0 := by funext i; simp [fill]
theorem full_facts {n k : Nat} (hk : k < n) (hn : n ≤ 256) :
    mkE n (fill n) 1 = 5 ∧ mkA n (fill n) 1 = fill n ∧ geE n (fill n) (fun _ => 1) (256 + k) = 0 ∧
    mkE n (frA n (fill n) (fun _ => 1) (256 + k)) 9 = 0 ∧ mkH n (frA n (fill n) (fun _ => 1) (256 + k)) (frT n (fill n) (fun _ => 1) (256 + k)) 9 = 512 + k ∧
    geV n (mkA n (frA n (fill n) (fun _ => 1) (256 + k)) 9) (frT n (fill n) (fun _ => 1) (256 + k)) (512 + k) = 9 ∧
    geE n (mkA n (frA n (fill n) (fun _ => 1) (256 + k)) 9) (frT n (fill n) (fun _ => 1) (256 + k)) (512 + k) = 0 ∧
    (allL (mkA n (frA n (fill n) (fun _ => 1) (256 + k)) 9) n).length = n := by
  obtain ⟨f1, f2, f3⟩ := mk_full (T := fun _ => 1) (at' := 1) (n := n) (A := fill n) (by decide) (by rw [fill_full]; omega)
  have ok : Okt n 1 (fill n) (fun _ => 1) := fun i hi => by simp [fill, hi]; omega
  have hd : fd n (fill n) (fun _ => 1) (256 + k) = k := by
    have := fd_hnd ok hn hk (by simp [fill, hk]; omega)
    have e : hnd (fun _ => 1) k = 256 + (k : Int) := by simp [hnd]
    rwa [e] at this
  obtain ⟨e1, e2⟩ := fr_yes hd hk
  have low : lowF n (upd (fill n) k 0) = k := fst_is hk (by simp [upd]) (fun j hj => by
    have : j ≠ k := by omega
    have : j < n := by omega
    simp [upd, fill, *]; omega)
  obtain ⟨m1, m2, m3⟩ := mk_yes (T := upd (fun _ => 1) k 2) (at' := 9) (n := n) (A := upd (fill n) k 0) (by decide) low hk
  have ok2 : Okt n 2 (upd (upd (fill n) k 0) k 9) (upd (fun _ => 1) k 2) := fun i hi => by
    unfold upd fill
    split <;> simp [hi] <;> omega
  have hd2 : fd n (upd (upd (fill n) k 0) k 9) (upd (fun _ => 1) k 2) (512 + k) = k := by
    have := fd_hnd ok2 hn hk (by simp [upd])
    have e : hnd (upd (fun _ => 1) k 2) k = 512 + (k : Int) := by simp [hnd, upd]
    rwa [e] at this
  have e2' : frT n (fill n) (fun _ => 1) (256 + k) = upd (fun _ => 1) k 2 := by rw [e2]; rfl
  rw [e1, e2', m3]
  refine ⟨f1, f3, by simp [geE, hd, hk], m1, by rw [m2, upd_at]; omega, by simp [geV, hd2, hk, upd], by simp [geE, hd2, hk], allL_full n (fun i hi => ?_)⟩
  have := (ok2 i hi).1
  unfold upd fill
  split <;> simp [hi] <;> omega
end Go.Proofs.Ytejjobemafdlbaa
