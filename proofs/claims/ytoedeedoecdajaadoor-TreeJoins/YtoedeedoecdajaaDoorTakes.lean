/- Package tree's parser: a name, a sign or a word, names. -/
import Derived.Test.YtoedeedoecdajaaDoorSmall
import Derived.Deep.AppendLies
namespace Go.Proofs.YtoedeedoecdajaaDoor
open Go.RowKit
set_option linter.unusedVariables false
set_option linter.unusedSimpArgs false

theorem pKind_cases (k : Int) (l : List Tok) : (∃ t r, l = t :: r ∧ t.kind = k ∧ pKind k l = .ok (t, r)) ∨ pKind k l = .error (23, l) := by
  cases l with
  | nil => exact .inr rfl
  | cons t r =>
    by_cases h : t.kind = k
    · exact .inl ⟨t, r, rfl, h, by simp [pKind, h]⟩
    · exact .inr (by simp [pKind, h])

set_option maxRecDepth 100000 in
set_option maxHeartbeats 1000000 in
theorem takeName_any {w : World} {b : Nat} {l : List Tok} {n : Int} (R : Rd w b l n 0) :
    Calls Tryd.prog 78 #[ptr b] w (Ans b n w (fun _ _ (t : Tok) v => v = .string (str t.text)) (pKind 1 l)) := by
  have T := take_any R 1 (by decide)
  have f1 := field1
  rcases pKind_cases 1 l with ⟨t, r, rfl, hk, h⟩ | h
  · rw [h] at T ⊢
    clear R
    go_enter Tryd.func78, Tryd.ntmps78
    go_wp2_with (go_at_call 69; refine T.mono ?_; rintro e w1 ⟨F, v, rfl, rfl, R1⟩; unfold hdV)
    refine bodyPost_ret (results_tmp rfl _ _ _) rfl ?_
    exact Ans.ok F R1 rfl
  · rw [h] at T ⊢
    clear R
    go_enter Tryd.func78, Tryd.ntmps78
    go_wp2_with (go_at_call 69; refine T.mono ?_; rintro e w1 ⟨F, rfl, R1⟩)
    exact ⟨rfl, Ans.err F R1⟩

set_option maxRecDepth 100000 in
set_option maxHeartbeats 1000000 in
theorem pass_any {w : World} {b : Nat} {l : List Tok} {n : Int} (R : Rd w b l n 0) {s : List UInt8} (hs : isMark s = true) (hl : s ≠ []) :
    Calls Tryd.prog 68 #[ptr b, .string (str s)] w (Ans b n w (fun _ _ (_ : Unit) v => v = .tuple #[]) (pWant s l)) := by
  have lt := R.lt
  have z := R.z 0
  have S := stands_any R hs hl
  have U := fun o => giveUp_any (R.alloc o) 23
  by_cases h : isS s l = true
  · have P : pWant s l = .ok ((), l.tail) := by simp [pWant, h]
    rw [P]
    rw [h] at S
    cases l with
    | nil => cases h
    | cons t r =>
      obtain ⟨g, off, cap, c0, ⟨h1, _⟩, h2, hg, _⟩ := R.next
      have lt1 : b < w.heap.size + 1 := by omega
      have b1 : (1 : Int) ≤ r.length + 1 := by omega
      have b2 : ((r.length : Int) + 1) ≤ cap := by omega
      clear U
      go_enter Tryd.func68, Tryd.ntmps68
      go_wp2_with (go_at_call 35; refine S.mono ?_; rintro e w1 ⟨rfl, o, rfl⟩)
      all_goals
        go_end0
        refine Ans.ok ?_ ?_ rfl
        · exact (((Fr.refl b w).set 0 _).alloc _)
        · refine Rd.alloc ?_ _
          first
            | exact R.step c0 _ (.inl rfl)
            | (subst cap; exact R.step c0 _ (.inr rfl))
  · have h : isS s l = false := by simpa using h
    have P : pWant s l = .error (23, l) := by simp [pWant, h]
    rw [P]
    rw [h] at S
    go_enter Tryd.func68, Tryd.ntmps68
    go_wp2_with (first
      | (go_at_call 35; refine S.mono ?_; rintro e w1 ⟨rfl, o, rfl⟩)
      | (go_at_call 76; refine (U _).mono ?_; rintro e w2 ⟨rfl, rfl⟩))
    exact ⟨rfl, Ans.err (((Fr.refl b w).set 2 _).alloc _) ((R.wrong 23).alloc _)⟩

theorem info9 : (Tryd.prog.info? 9).map (fun i => (i.zero, i.size, i.bytes)) = some (some (.string ⟨#[]⟩), 1, 16) := by kernel_rfl
theorem strC_snoc (l : List (List UInt8)) (s : List UInt8) : strC (l ++ [s]) = strC l ++ [.string (str s)] := by simp [strC]
set_option maxRecDepth 100000 in
set_option maxHeartbeats 4000000 in
theorem names_any {w : World} {b : Nat} {l : List Tok} {n : Int} (R : Rd w b l n 0) :
    Calls Tryd.prog 79 #[ptr b] w fun e w' => ∃ v, e = .returned v ∧ Fr b w w' ∧ Rd w' b (pNames l).2 n 0 ∧ w'.ownsRow w.heap.size 9 1 v (pNames l).1.length (strC (pNames l).1) ∧ ((pNames l).1 = [] → v = .slice none 0 0) := by
  have lt := R.lt
  have len := R.len
  have f0 := field0
  obtain ⟨P, hP⟩ : ∃ P, pNames l = P := ⟨_, rfl⟩
  rw [hP]
  go_enter Tryd.func79, Tryd.ntmps79
  go_wp2
  go_loopw [3] (fun v wr => ∃ ns l', Rd wr b l' n 0 ∧ Hid (ns ++ (pNames l').1 = P.1 ∧ (pNames l').2 = P.2) ∧ ns.length + l'.length ≤ 16384 ∧ Fr b w wr ∧ wr.ownsRow w.heap.size 9 1 v ns.length (strC ns) ∧ (ns = [] → v = .slice none 0 0)) (fun _ wr => leftN wr b)
  case atStart => exact ⟨[], l, R, ⟨by rw [hP]; exact ⟨rfl, rfl⟩⟩, by simp; exact len, Fr.refl _ _, World.ownsRow_nil _ _ _ _, fun _ => rfl⟩
  case round =>
    clear R hP len
    obtain ⟨ns, l', R, H, hl, F, O, HZ0⟩ := hrel
    have HZ : Hid (ns = [] → u3 = .slice none 0 0) := ⟨HZ0⟩
    clear HZ0
    have L := look_any R
    have HL : Hid (leftN wr b = l'.length) := ⟨R.left⟩
    cases l' with
    | nil =>
      simp only [hdV] at L
      go_wp2_with (go_at_call 22; refine L.mono ?_; rintro e w1 ⟨rfl, o, rfl⟩)
      go_ret
      obtain ⟨h1, h2⟩ := H.out
      simp only [pNames, List.append_nil] at h1 h2
      rw [← h1, ← h2]
      exact ⟨_, rfl, F.alloc _, R.alloc _, O.alloc _, HZ.out⟩
    | cons t r =>
      simp only [hdV] at L
      by_cases hk : t.kind = 1
      · have T := fun o => takeName_any (R.alloc o)
        simp only [pKind, if_pos hk] at T
        have HN : Hid ((ns ++ [t.text]) ++ (pNames r).1 = P.1 ∧ (pNames r).2 = P.2) := ⟨by
          have := H.out
          simp only [pNames, if_pos hk] at this
          simpa using this⟩
        simp only [List.length_cons] at hl HL
        obtain ⟨i0, hi, hz0, hz1, hz2⟩ := info_parts info9
        have HF : Hid (Fr b w wr) := ⟨F⟩
        clear R H F
        go_wp2_with (first
          | (go_at_call 22; refine L.mono ?_; rintro e w1 ⟨rfl, o, rfl⟩)
          | (go_at_call 78; refine (T _).mono ?_; rintro e w2 ⟨F2, v2, rfl, rfl, R2⟩)
          | (at_builtin; refine wpList_append_lies _ rfl _ _ 47 rfl w.heap.size 9 i0 _ 1 16 Tryd.underlying47 hi hz0 hz1 hz2 rfl (by decide) u3 ns.length (strC ns) rfl (own_alloc (own_fr (own_alloc O _) F2 lt) _) ⟨_, 0, none⟩ 1 1 [.string (str t.text)] rfl rfl new_one (by simp [Value.oneCell']) (by decide) (by unfold maxLen; omega) (by omega) (by have := HF.out.size; have := F2.size; simp at this ⊢; omega) _ rfl ?_; intro q cap1 w3 ho hg hat hlt; have R3 := (R2.alloc _).row (own_alloc (own_fr (own_alloc O _) F2 lt) _) lt hg; have F3 := (((HF.out.alloc _).trans F2).alloc _).row (own_alloc (own_fr (own_alloc O _) F2 lt) _) hg; clear hg hat hlt hi hz0 hz1 hz2))
        refine ⟨⟨ns ++ [t.text], r, R3, HN, by simp; omega, F3, ?_, fun z => by simp at z⟩, ?_⟩
        · rw [strC_snoc, List.length_append]
          exact ho
        · rw [R3.left, HL.out]
          omega
      · simp only [pNames, if_neg hk] at H
        go_wp2_with (go_at_call 22; refine L.mono ?_; rintro e w1 ⟨rfl, o, rfl⟩)
        go_ret
        obtain ⟨h1, h2⟩ := H.out
        simp only [List.append_nil] at h1
        rw [← h1, ← h2]
        exact ⟨_, rfl, F.alloc _, R.alloc _, O.alloc _, HZ.out⟩

end Go.Proofs.YtoedeedoecdajaaDoor
