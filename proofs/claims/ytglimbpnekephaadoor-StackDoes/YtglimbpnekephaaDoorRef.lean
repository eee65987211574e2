/- The document's Right, for whatever frame. -/
import Derived.Test.YtglimbpnekephaaDoorStl
namespace Go.Proofs.YtglimbpnekephaaDoor
open Go.RowKit
set_option linter.unusedVariables false
set_option linter.unusedSimpArgs false

set_option maxHeartbeats 1000000 in
set_option maxRecDepth 100000 in
theorem ref1_1 (fa fb : Int) (ps : List Int) (o : Option Addr) (cap : Nat) (w : World) (P : PS w o cap ps) (hs : hasB 0 1000 (ps.length : Int) = false) :
    Calls Tryd.prog 14 #[.agg #[.int .i64 1, .int .i64 fa, .int .i64 fb, .slice o ps.length cap]] w fun e w' => e = .returned (.int .i64 7) ∧ Below w.heap.size w w' := by
  have HP := Hid.mk P
  obtain ⟨n, hn⟩ : ∃ n, ps.length = n := ⟨_, rfl⟩
  have hc1 : n ≤ cap := hn ▸ P.cap
  have hc2 : n ≤ 9223372036854775807 := hn ▸ P.len
  have HN := Hid.mk hn
  rw [hn] at hs ⊢
  clear hn P
  have s : decide ((n : Int) ≤ 1000) = false := by have := hasB_no.1 hs; simp; omega
  clear hs
  go_enter Tryd.func14, Tryd.ntmps14
  go_wp2_with (go_at_call 39; refine (between_any _ _ _ _).mono ?_; rintro e w' ⟨rfl, rfl⟩)
  all_goals go_ret
  all_goals exact ⟨rfl, by go_grown⟩
set_option maxHeartbeats 1000000 in
set_option maxRecDepth 100000 in
theorem ref1_2 (fa fb : Int) (ps : List Int) (o : Option Addr) (cap : Nat) (w : World) (P : PS w o cap ps) (hs : hasB 0 1000 (ps.length : Int) = true) (ha : hasB 0 1048575 fa = false) :
    Calls Tryd.prog 14 #[.agg #[.int .i64 1, .int .i64 fa, .int .i64 fb, .slice o ps.length cap]] w fun e w' => e = .returned (.int .i64 2) ∧ Below w.heap.size w w' := by
  have HP := Hid.mk P
  obtain ⟨n, hn⟩ : ∃ n, ps.length = n := ⟨_, rfl⟩
  have hc1 : n ≤ cap := hn ▸ P.cap
  have hc2 : n ≤ 9223372036854775807 := hn ▸ P.len
  have HN := Hid.mk hn
  rw [hn] at hs ⊢
  clear hn P
  have s : decide ((n : Int) ≤ 1000) = true := by have := hasB_yes.1 hs; simp; omega
  have a : hasB 0 1048575 fa = false := ha
  clear hs ha
  go_enter Tryd.func14, Tryd.ntmps14
  go_wp2_with (go_at_call 39; refine (between_any _ _ _ _).mono ?_; rintro e w' ⟨rfl, rfl⟩)
  go_ret
  exact ⟨rfl, by go_grown⟩
set_option maxHeartbeats 1000000 in
set_option maxRecDepth 100000 in
theorem ref1_3 (fa fb : Int) (ps : List Int) (o : Option Addr) (cap : Nat) (w : World) (P : PS w o cap ps) (hs : hasB 0 1000 (ps.length : Int) = true) (ha : hasB 0 1048575 fa = true) (hb : hasB 0 0 fb = false) :
    Calls Tryd.prog 14 #[.agg #[.int .i64 1, .int .i64 fa, .int .i64 fb, .slice o ps.length cap]] w fun e w' => e = .returned (.int .i64 2) ∧ Below w.heap.size w w' := by
  have HP := Hid.mk P
  obtain ⟨n, hn⟩ : ∃ n, ps.length = n := ⟨_, rfl⟩
  have hc1 : n ≤ cap := hn ▸ P.cap
  have hc2 : n ≤ 9223372036854775807 := hn ▸ P.len
  have HN := Hid.mk hn
  rw [hn] at hs ⊢
  clear hn P
  have s : decide ((n : Int) ≤ 1000) = true := by have := hasB_yes.1 hs; simp; omega
  have a : hasB 0 1048575 fa = true := ha
  have b : (fb == 0) = false := by have := hasB_no.1 hb; simp; omega
  clear hs ha hb
  go_enter Tryd.func14, Tryd.ntmps14
  go_wp2_with (go_at_call 39; refine (between_any _ _ _ _).mono ?_; rintro e w' ⟨rfl, rfl⟩)
  go_ret
  exact ⟨rfl, by go_grown⟩
set_option maxHeartbeats 1000000 in
set_option maxRecDepth 100000 in
theorem ref1_4 (fa fb : Int) (ps : List Int) (o : Option Addr) (cap : Nat) (w : World) (P : PS w o cap ps) (hs : hasB 0 1000 (ps.length : Int) = true) (ha : hasB 0 1048575 fa = true) (hb : hasB 0 0 fb = true) :
    Calls Tryd.prog 14 #[.agg #[.int .i64 1, .int .i64 fa, .int .i64 fb, .slice o ps.length cap]] w fun e w' => e = .returned (.int .i64 (if ps.any wrongP = true then 4 else 0)) ∧ Below w.heap.size w w' := by
  have HP := Hid.mk P
  obtain ⟨n, hn⟩ : ∃ n, ps.length = n := ⟨_, rfl⟩
  have hc1 : n ≤ cap := hn ▸ P.cap
  have hc2 : n ≤ 9223372036854775807 := hn ▸ P.len
  have HN := Hid.mk hn
  rw [hn] at hs ⊢
  clear hn P
  obtain ⟨R, hR⟩ : ∃ R : Int, (if ps.any wrongP = true then (4 : Int) else 0) = R := ⟨_, rfl⟩
  rw [hR]
  have HR := Hid.mk hR
  clear hR
  have s : decide ((n : Int) ≤ 1000) = true := by have := hasB_yes.1 hs; simp; omega
  have a : hasB 0 1048575 fa = true := ha
  have b : (fb == 0) = true := by have := hasB_yes.1 hb; simp; omega
  clear hs ha hb
  go_enter Tryd.func14, Tryd.ntmps14
  go_wp2_with (go_at_call 39; refine (between_any _ _ _ _).mono ?_; rintro e w' ⟨rfl, rfl⟩)
  go_loopw [6] (fun cv wr => ∃ i : Nat, cv = .int .i64 i ∧ i ≤ n ∧ Hid ((ps.take i).any wrongP = false) ∧ wr = w.alloc (Obj.cells #[.int .i64 1, .int .i64 fa, .int .i64 fb, .slice o n cap] 36)) (fun cv _ => n - (intOf cv).toNat)
  case atStart => exact ⟨0, rfl, Nat.zero_le _, ⟨rfl⟩, rfl⟩
  case round =>
    obtain ⟨i, rfl, hi, A, rfl⟩ := hrel
    by_cases hlt : i < n
    · have kl : i < ps.length := by rw [HN.out]; exact hlt
      obtain ⟨g, off, rfl, cx⟩ := (HP.out.later (show Below w.heap.size w (w.alloc (Obj.cells #[.int .i64 1, .int .i64 fa, .int .i64 fb, .slice o n cap] 36)) by go_grown)).get i kl
      have HA : Hid ((ps.take (i + 1)).any wrongP = ((ps.take i).any wrongP || wrongP (ps[i]'kl))) := ⟨by rw [List.take_succ_eq_append_getElem kl, List.any_append]; simp only [List.any_cons, List.any_nil, Bool.or_false]⟩
      have HA2 : Hid (wrongP (ps[i]'kl) = true → ps.any wrongP = true) := ⟨fun q => by rw [List.any_eq_true]; exact ⟨_, List.getElem_mem kl, q⟩⟩
      have hw : hasB 0 524288 (ps[i]'kl) = !(wrongP (ps[i]'kl)) := by
        unfold hasB wrongP
        by_cases q1 : ps[i]'kl < 0
        · simp [q1] <;> omega
        · by_cases q2 : 524288 < ps[i]'kl
          · simp [q2] <;> omega
          · simp [q1, q2] <;> omega
      generalize ps[i]'kl = m at *
      have hlt' : (i : Int) < n := by omega
      rcases Bool.eq_false_or_eq_true (wrongP m) with q | q
      · rw [q] at hw
        have HQ := Hid.mk q
        clear q
        have hw' : hasB 0 524288 m = false := hw
        clear hw
        go_wp2_with (go_at_call 39; refine (between_any _ _ _ _).mono ?_; rintro e w' ⟨rfl, rfl⟩)
        go_ret
        exact ⟨retInt (by rw [← HR.out, HA2.out HQ.out]; rfl), by go_grown⟩
      · rw [q] at hw
        have HQ := Hid.mk q
        clear q
        have hw' : hasB 0 524288 m = true := hw
        clear hw
        go_wp2_with (go_at_call 39; refine (between_any _ _ _ _).mono ?_; rintro e w' ⟨rfl, rfl⟩)
        exact ⟨⟨i + 1, by go_num, by omega, ⟨by rw [HA.out, A.out, HQ.out]; rfl⟩, by first | rfl | trivial⟩, by simp [intOf]; omega⟩
    · obtain rfl : i = n := by omega
      go_wp2
      go_ret
      exact ⟨retInt (by have := A.out; rw [List.take_of_length_le (by rw [HN.out]; omega)] at this; rw [← HR.out, this]; rfl), by go_grown⟩
set_option maxHeartbeats 1000000 in
set_option maxRecDepth 100000 in
theorem ref2_1 (fa fb : Int) (ps : List Int) (o : Option Addr) (cap : Nat) (w : World) (P : PS w o cap ps) (hs : hasB 1 1 (ps.length : Int) = false) :
    Calls Tryd.prog 14 #[.agg #[.int .i64 2, .int .i64 fa, .int .i64 fb, .slice o ps.length cap]] w fun e w' => e = .returned (.int .i64 7) ∧ Below w.heap.size w w' := by
  have HP := Hid.mk P
  obtain ⟨n, hn⟩ : ∃ n, ps.length = n := ⟨_, rfl⟩
  have hc1 : n ≤ cap := hn ▸ P.cap
  have hc2 : n ≤ 9223372036854775807 := hn ▸ P.len
  have HN := Hid.mk hn
  rw [hn] at hs ⊢
  clear hn P
  have s : ((n : Int) == 1) = false := by have := hasB_no.1 hs; simp; omega
  clear hs
  go_enter Tryd.func14, Tryd.ntmps14
  go_wp2_with (go_at_call 39; refine (between_any _ _ _ _).mono ?_; rintro e w' ⟨rfl, rfl⟩)
  all_goals go_ret
  all_goals exact ⟨rfl, by go_grown⟩
set_option maxHeartbeats 1000000 in
set_option maxRecDepth 100000 in
theorem ref2_2 (fa fb : Int) (ps : List Int) (o : Option Addr) (cap : Nat) (w : World) (P : PS w o cap ps) (hs : hasB 1 1 (ps.length : Int) = true) (ha : hasB 0 0 fa = false) :
    Calls Tryd.prog 14 #[.agg #[.int .i64 2, .int .i64 fa, .int .i64 fb, .slice o ps.length cap]] w fun e w' => e = .returned (.int .i64 2) ∧ Below w.heap.size w w' := by
  have HP := Hid.mk P
  obtain ⟨n, hn⟩ : ∃ n, ps.length = n := ⟨_, rfl⟩
  have hc1 : n ≤ cap := hn ▸ P.cap
  have hc2 : n ≤ 9223372036854775807 := hn ▸ P.len
  have HN := Hid.mk hn
  rw [hn] at hs ⊢
  clear hn P
  have s : ((n : Int) == 1) = true := by have := hasB_yes.1 hs; simp; omega
  have a : (fa == 0) = false := by have := hasB_no.1 ha; simp; omega
  clear hs ha
  go_enter Tryd.func14, Tryd.ntmps14
  go_wp2_with (go_at_call 39; refine (between_any _ _ _ _).mono ?_; rintro e w' ⟨rfl, rfl⟩)
  go_ret
  exact ⟨rfl, by go_grown⟩
set_option maxHeartbeats 1000000 in
set_option maxRecDepth 100000 in
theorem ref2_3 (fa fb : Int) (ps : List Int) (o : Option Addr) (cap : Nat) (w : World) (P : PS w o cap ps) (hs : hasB 1 1 (ps.length : Int) = true) (ha : hasB 0 0 fa = true) (hb : hasB 0 0 fb = false) :
    Calls Tryd.prog 14 #[.agg #[.int .i64 2, .int .i64 fa, .int .i64 fb, .slice o ps.length cap]] w fun e w' => e = .returned (.int .i64 2) ∧ Below w.heap.size w w' := by
  have HP := Hid.mk P
  obtain ⟨n, hn⟩ : ∃ n, ps.length = n := ⟨_, rfl⟩
  have hc1 : n ≤ cap := hn ▸ P.cap
  have hc2 : n ≤ 9223372036854775807 := hn ▸ P.len
  have HN := Hid.mk hn
  rw [hn] at hs ⊢
  clear hn P
  have s : ((n : Int) == 1) = true := by have := hasB_yes.1 hs; simp; omega
  have a : (fa == 0) = true := by have := hasB_yes.1 ha; simp; omega
  have b : (fb == 0) = false := by have := hasB_no.1 hb; simp; omega
  clear hs ha hb
  go_enter Tryd.func14, Tryd.ntmps14
  go_wp2_with (go_at_call 39; refine (between_any _ _ _ _).mono ?_; rintro e w' ⟨rfl, rfl⟩)
  go_ret
  exact ⟨rfl, by go_grown⟩
set_option maxHeartbeats 1000000 in
set_option maxRecDepth 100000 in
theorem ref2_4 (fa fb : Int) (ps : List Int) (o : Option Addr) (cap : Nat) (w : World) (P : PS w o cap ps) (hs : hasB 1 1 (ps.length : Int) = true) (ha : hasB 0 0 fa = true) (hb : hasB 0 0 fb = true) :
    Calls Tryd.prog 14 #[.agg #[.int .i64 2, .int .i64 fa, .int .i64 fb, .slice o ps.length cap]] w fun e w' => e = .returned (.int .i64 (if ps.any wrongP = true then 4 else 0)) ∧ Below w.heap.size w w' := by
  have HP := Hid.mk P
  obtain ⟨n, hn⟩ : ∃ n, ps.length = n := ⟨_, rfl⟩
  have hc1 : n ≤ cap := hn ▸ P.cap
  have hc2 : n ≤ 9223372036854775807 := hn ▸ P.len
  have HN := Hid.mk hn
  rw [hn] at hs ⊢
  clear hn P
  obtain ⟨R, hR⟩ : ∃ R : Int, (if ps.any wrongP = true then (4 : Int) else 0) = R := ⟨_, rfl⟩
  rw [hR]
  have HR := Hid.mk hR
  clear hR
  have s : ((n : Int) == 1) = true := by have := hasB_yes.1 hs; simp; omega
  have a : (fa == 0) = true := by have := hasB_yes.1 ha; simp; omega
  have b : (fb == 0) = true := by have := hasB_yes.1 hb; simp; omega
  clear hs ha hb
  go_enter Tryd.func14, Tryd.ntmps14
  go_wp2_with (go_at_call 39; refine (between_any _ _ _ _).mono ?_; rintro e w' ⟨rfl, rfl⟩)
  go_loopw [6] (fun cv wr => ∃ i : Nat, cv = .int .i64 i ∧ i ≤ n ∧ Hid ((ps.take i).any wrongP = false) ∧ wr = w.alloc (Obj.cells #[.int .i64 2, .int .i64 fa, .int .i64 fb, .slice o n cap] 36)) (fun cv _ => n - (intOf cv).toNat)
  case atStart => exact ⟨0, rfl, Nat.zero_le _, ⟨rfl⟩, rfl⟩
  case round =>
    obtain ⟨i, rfl, hi, A, rfl⟩ := hrel
    by_cases hlt : i < n
    · have kl : i < ps.length := by rw [HN.out]; exact hlt
      obtain ⟨g, off, rfl, cx⟩ := (HP.out.later (show Below w.heap.size w (w.alloc (Obj.cells #[.int .i64 2, .int .i64 fa, .int .i64 fb, .slice o n cap] 36)) by go_grown)).get i kl
      have HA : Hid ((ps.take (i + 1)).any wrongP = ((ps.take i).any wrongP || wrongP (ps[i]'kl))) := ⟨by rw [List.take_succ_eq_append_getElem kl, List.any_append]; simp only [List.any_cons, List.any_nil, Bool.or_false]⟩
      have HA2 : Hid (wrongP (ps[i]'kl) = true → ps.any wrongP = true) := ⟨fun q => by rw [List.any_eq_true]; exact ⟨_, List.getElem_mem kl, q⟩⟩
      have hw : hasB 0 524288 (ps[i]'kl) = !(wrongP (ps[i]'kl)) := by
        unfold hasB wrongP
        by_cases q1 : ps[i]'kl < 0
        · simp [q1] <;> omega
        · by_cases q2 : 524288 < ps[i]'kl
          · simp [q2] <;> omega
          · simp [q1, q2] <;> omega
      generalize ps[i]'kl = m at *
      have hlt' : (i : Int) < n := by omega
      rcases Bool.eq_false_or_eq_true (wrongP m) with q | q
      · rw [q] at hw
        have HQ := Hid.mk q
        clear q
        have hw' : hasB 0 524288 m = false := hw
        clear hw
        go_wp2_with (go_at_call 39; refine (between_any _ _ _ _).mono ?_; rintro e w' ⟨rfl, rfl⟩)
        go_ret
        exact ⟨retInt (by rw [← HR.out, HA2.out HQ.out]; rfl), by go_grown⟩
      · rw [q] at hw
        have HQ := Hid.mk q
        clear q
        have hw' : hasB 0 524288 m = true := hw
        clear hw
        go_wp2_with (go_at_call 39; refine (between_any _ _ _ _).mono ?_; rintro e w' ⟨rfl, rfl⟩)
        exact ⟨⟨i + 1, by go_num, by omega, ⟨by rw [HA.out, A.out, HQ.out]; rfl⟩, by first | rfl | trivial⟩, by simp [intOf]; omega⟩
    · obtain rfl : i = n := by omega
      go_wp2
      go_ret
      exact ⟨retInt (by have := A.out; rw [List.take_of_length_le (by rw [HN.out]; omega)] at this; rw [← HR.out, this]; rfl), by go_grown⟩
set_option maxHeartbeats 1000000 in
set_option maxRecDepth 100000 in
theorem ref3_1 (fa fb : Int) (ps : List Int) (o : Option Addr) (cap : Nat) (w : World) (P : PS w o cap ps) (hs : hasB 1 8 (ps.length : Int) = false) :
    Calls Tryd.prog 14 #[.agg #[.int .i64 3, .int .i64 fa, .int .i64 fb, .slice o ps.length cap]] w fun e w' => e = .returned (.int .i64 7) ∧ Below w.heap.size w w' := by
  have HP := Hid.mk P
  obtain ⟨n, hn⟩ : ∃ n, ps.length = n := ⟨_, rfl⟩
  have hc1 : n ≤ cap := hn ▸ P.cap
  have hc2 : n ≤ 9223372036854775807 := hn ▸ P.len
  have HN := Hid.mk hn
  rw [hn] at hs ⊢
  clear hn P
  have s : hasB 1 8 (n : Int) = false := hs
  clear hs
  go_enter Tryd.func14, Tryd.ntmps14
  go_wp2_with (go_at_call 39; refine (between_any _ _ _ _).mono ?_; rintro e w' ⟨rfl, rfl⟩)
  all_goals go_ret
  all_goals exact ⟨rfl, by go_grown⟩
set_option maxHeartbeats 1000000 in
set_option maxRecDepth 100000 in
theorem ref3_2 (fa fb : Int) (ps : List Int) (o : Option Addr) (cap : Nat) (w : World) (P : PS w o cap ps) (hs : hasB 1 8 (ps.length : Int) = true) (ha : hasB 0 0 fa = false) :
    Calls Tryd.prog 14 #[.agg #[.int .i64 3, .int .i64 fa, .int .i64 fb, .slice o ps.length cap]] w fun e w' => e = .returned (.int .i64 2) ∧ Below w.heap.size w w' := by
  have HP := Hid.mk P
  obtain ⟨n, hn⟩ : ∃ n, ps.length = n := ⟨_, rfl⟩
  have hc1 : n ≤ cap := hn ▸ P.cap
  have hc2 : n ≤ 9223372036854775807 := hn ▸ P.len
  have HN := Hid.mk hn
  rw [hn] at hs ⊢
  clear hn P
  have s : hasB 1 8 (n : Int) = true := hs
  have a : (fa == 0) = false := by have := hasB_no.1 ha; simp; omega
  clear hs ha
  go_enter Tryd.func14, Tryd.ntmps14
  go_wp2_with (go_at_call 39; refine (between_any _ _ _ _).mono ?_; rintro e w' ⟨rfl, rfl⟩)
  go_ret
  exact ⟨rfl, by go_grown⟩
set_option maxHeartbeats 1000000 in
set_option maxRecDepth 100000 in
theorem ref3_3 (fa fb : Int) (ps : List Int) (o : Option Addr) (cap : Nat) (w : World) (P : PS w o cap ps) (hs : hasB 1 8 (ps.length : Int) = true) (ha : hasB 0 0 fa = true) (hb : hasB 0 0 fb = false) :
    Calls Tryd.prog 14 #[.agg #[.int .i64 3, .int .i64 fa, .int .i64 fb, .slice o ps.length cap]] w fun e w' => e = .returned (.int .i64 2) ∧ Below w.heap.size w w' := by
  have HP := Hid.mk P
  obtain ⟨n, hn⟩ : ∃ n, ps.length = n := ⟨_, rfl⟩
  have hc1 : n ≤ cap := hn ▸ P.cap
  have hc2 : n ≤ 9223372036854775807 := hn ▸ P.len
  have HN := Hid.mk hn
  rw [hn] at hs ⊢
  clear hn P
  have s : hasB 1 8 (n : Int) = true := hs
  have a : (fa == 0) = true := by have := hasB_yes.1 ha; simp; omega
  have b : (fb == 0) = false := by have := hasB_no.1 hb; simp; omega
  clear hs ha hb
  go_enter Tryd.func14, Tryd.ntmps14
  go_wp2_with (go_at_call 39; refine (between_any _ _ _ _).mono ?_; rintro e w' ⟨rfl, rfl⟩)
  go_ret
  exact ⟨rfl, by go_grown⟩
set_option maxHeartbeats 1000000 in
set_option maxRecDepth 100000 in
theorem ref3_4 (fa fb : Int) (ps : List Int) (o : Option Addr) (cap : Nat) (w : World) (P : PS w o cap ps) (hs : hasB 1 8 (ps.length : Int) = true) (ha : hasB 0 0 fa = true) (hb : hasB 0 0 fb = true) :
    Calls Tryd.prog 14 #[.agg #[.int .i64 3, .int .i64 fa, .int .i64 fb, .slice o ps.length cap]] w fun e w' => e = .returned (.int .i64 (if ps.any wrongP = true then 4 else 0)) ∧ Below w.heap.size w w' := by
  have HP := Hid.mk P
  obtain ⟨n, hn⟩ : ∃ n, ps.length = n := ⟨_, rfl⟩
  have hc1 : n ≤ cap := hn ▸ P.cap
  have hc2 : n ≤ 9223372036854775807 := hn ▸ P.len
  have HN := Hid.mk hn
  rw [hn] at hs ⊢
  clear hn P
  obtain ⟨R, hR⟩ : ∃ R : Int, (if ps.any wrongP = true then (4 : Int) else 0) = R := ⟨_, rfl⟩
  rw [hR]
  have HR := Hid.mk hR
  clear hR
  have s : hasB 1 8 (n : Int) = true := hs
  have a : (fa == 0) = true := by have := hasB_yes.1 ha; simp; omega
  have b : (fb == 0) = true := by have := hasB_yes.1 hb; simp; omega
  clear hs ha hb
  go_enter Tryd.func14, Tryd.ntmps14
  go_wp2_with (go_at_call 39; refine (between_any _ _ _ _).mono ?_; rintro e w' ⟨rfl, rfl⟩)
  go_loopw [6] (fun cv wr => ∃ i : Nat, cv = .int .i64 i ∧ i ≤ n ∧ Hid ((ps.take i).any wrongP = false) ∧ wr = w.alloc (Obj.cells #[.int .i64 3, .int .i64 fa, .int .i64 fb, .slice o n cap] 36)) (fun cv _ => n - (intOf cv).toNat)
  case atStart => exact ⟨0, rfl, Nat.zero_le _, ⟨rfl⟩, rfl⟩
  case round =>
    obtain ⟨i, rfl, hi, A, rfl⟩ := hrel
    by_cases hlt : i < n
    · have kl : i < ps.length := by rw [HN.out]; exact hlt
      obtain ⟨g, off, rfl, cx⟩ := (HP.out.later (show Below w.heap.size w (w.alloc (Obj.cells #[.int .i64 3, .int .i64 fa, .int .i64 fb, .slice o n cap] 36)) by go_grown)).get i kl
      have HA : Hid ((ps.take (i + 1)).any wrongP = ((ps.take i).any wrongP || wrongP (ps[i]'kl))) := ⟨by rw [List.take_succ_eq_append_getElem kl, List.any_append]; simp only [List.any_cons, List.any_nil, Bool.or_false]⟩
      have HA2 : Hid (wrongP (ps[i]'kl) = true → ps.any wrongP = true) := ⟨fun q => by rw [List.any_eq_true]; exact ⟨_, List.getElem_mem kl, q⟩⟩
      have hw : hasB 0 524288 (ps[i]'kl) = !(wrongP (ps[i]'kl)) := by
        unfold hasB wrongP
        by_cases q1 : ps[i]'kl < 0
        · simp [q1] <;> omega
        · by_cases q2 : 524288 < ps[i]'kl
          · simp [q2] <;> omega
          · simp [q1, q2] <;> omega
      generalize ps[i]'kl = m at *
      have hlt' : (i : Int) < n := by omega
      rcases Bool.eq_false_or_eq_true (wrongP m) with q | q
      · rw [q] at hw
        have HQ := Hid.mk q
        clear q
        have hw' : hasB 0 524288 m = false := hw
        clear hw
        go_wp2_with (go_at_call 39; refine (between_any _ _ _ _).mono ?_; rintro e w' ⟨rfl, rfl⟩)
        go_ret
        exact ⟨retInt (by rw [← HR.out, HA2.out HQ.out]; rfl), by go_grown⟩
      · rw [q] at hw
        have HQ := Hid.mk q
        clear q
        have hw' : hasB 0 524288 m = true := hw
        clear hw
        go_wp2_with (go_at_call 39; refine (between_any _ _ _ _).mono ?_; rintro e w' ⟨rfl, rfl⟩)
        exact ⟨⟨i + 1, by go_num, by omega, ⟨by rw [HA.out, A.out, HQ.out]; rfl⟩, by first | rfl | trivial⟩, by simp [intOf]; omega⟩
    · obtain rfl : i = n := by omega
      go_wp2
      go_ret
      exact ⟨retInt (by have := A.out; rw [List.take_of_length_le (by rw [HN.out]; omega)] at this; rw [← HR.out, this]; rfl), by go_grown⟩
set_option maxHeartbeats 1000000 in
set_option maxRecDepth 100000 in
theorem ref4_1 (fa fb : Int) (ps : List Int) (o : Option Addr) (cap : Nat) (w : World) (P : PS w o cap ps) (hs : hasB 1 3 (ps.length : Int) = false) :
    Calls Tryd.prog 14 #[.agg #[.int .i64 4, .int .i64 fa, .int .i64 fb, .slice o ps.length cap]] w fun e w' => e = .returned (.int .i64 7) ∧ Below w.heap.size w w' := by
  have HP := Hid.mk P
  obtain ⟨n, hn⟩ : ∃ n, ps.length = n := ⟨_, rfl⟩
  have hc1 : n ≤ cap := hn ▸ P.cap
  have hc2 : n ≤ 9223372036854775807 := hn ▸ P.len
  have HN := Hid.mk hn
  rw [hn] at hs ⊢
  clear hn P
  have s : hasB 1 3 (n : Int) = false := hs
  clear hs
  go_enter Tryd.func14, Tryd.ntmps14
  go_wp2_with (go_at_call 39; refine (between_any _ _ _ _).mono ?_; rintro e w' ⟨rfl, rfl⟩)
  all_goals go_ret
  all_goals exact ⟨rfl, by go_grown⟩
set_option maxHeartbeats 1000000 in
set_option maxRecDepth 100000 in
theorem ref4_2 (fa fb : Int) (ps : List Int) (o : Option Addr) (cap : Nat) (w : World) (P : PS w o cap ps) (hs : hasB 1 3 (ps.length : Int) = true) (ha : hasB 1 16 fa = false) :
    Calls Tryd.prog 14 #[.agg #[.int .i64 4, .int .i64 fa, .int .i64 fb, .slice o ps.length cap]] w fun e w' => e = .returned (.int .i64 2) ∧ Below w.heap.size w w' := by
  have HP := Hid.mk P
  obtain ⟨n, hn⟩ : ∃ n, ps.length = n := ⟨_, rfl⟩
  have hc1 : n ≤ cap := hn ▸ P.cap
  have hc2 : n ≤ 9223372036854775807 := hn ▸ P.len
  have HN := Hid.mk hn
  rw [hn] at hs ⊢
  clear hn P
  have s : hasB 1 3 (n : Int) = true := hs
  have a : hasB 1 16 fa = false := ha
  clear hs ha
  go_enter Tryd.func14, Tryd.ntmps14
  go_wp2_with (go_at_call 39; refine (between_any _ _ _ _).mono ?_; rintro e w' ⟨rfl, rfl⟩)
  go_ret
  exact ⟨rfl, by go_grown⟩
set_option maxHeartbeats 1000000 in
set_option maxRecDepth 100000 in
theorem ref4_3 (fa fb : Int) (ps : List Int) (o : Option Addr) (cap : Nat) (w : World) (P : PS w o cap ps) (hs : hasB 1 3 (ps.length : Int) = true) (ha : hasB 1 16 fa = true) (hb : hasB 0 2 fb = false) :
    Calls Tryd.prog 14 #[.agg #[.int .i64 4, .int .i64 fa, .int .i64 fb, .slice o ps.length cap]] w fun e w' => e = .returned (.int .i64 2) ∧ Below w.heap.size w w' := by
  have HP := Hid.mk P
  obtain ⟨n, hn⟩ : ∃ n, ps.length = n := ⟨_, rfl⟩
  have hc1 : n ≤ cap := hn ▸ P.cap
  have hc2 : n ≤ 9223372036854775807 := hn ▸ P.len
  have HN := Hid.mk hn
  rw [hn] at hs ⊢
  clear hn P
  have s : hasB 1 3 (n : Int) = true := hs
  have a : hasB 1 16 fa = true := ha
  have b : hasB 0 2 fb = false := hb
  clear hs ha hb
  go_enter Tryd.func14, Tryd.ntmps14
  go_wp2_with (go_at_call 39; refine (between_any _ _ _ _).mono ?_; rintro e w' ⟨rfl, rfl⟩)
  go_ret
  exact ⟨rfl, by go_grown⟩
set_option maxHeartbeats 1000000 in
set_option maxRecDepth 100000 in
theorem ref4_4 (fa fb : Int) (ps : List Int) (o : Option Addr) (cap : Nat) (w : World) (P : PS w o cap ps) (hs : hasB 1 3 (ps.length : Int) = true) (ha : hasB 1 16 fa = true) (hb : hasB 0 2 fb = true) :
    Calls Tryd.prog 14 #[.agg #[.int .i64 4, .int .i64 fa, .int .i64 fb, .slice o ps.length cap]] w fun e w' => e = .returned (.int .i64 (if ps.any wrongP = true then 4 else 0)) ∧ Below w.heap.size w w' := by
  have HP := Hid.mk P
  obtain ⟨n, hn⟩ : ∃ n, ps.length = n := ⟨_, rfl⟩
  have hc1 : n ≤ cap := hn ▸ P.cap
  have hc2 : n ≤ 9223372036854775807 := hn ▸ P.len
  have HN := Hid.mk hn
  rw [hn] at hs ⊢
  clear hn P
  obtain ⟨R, hR⟩ : ∃ R : Int, (if ps.any wrongP = true then (4 : Int) else 0) = R := ⟨_, rfl⟩
  rw [hR]
  have HR := Hid.mk hR
  clear hR
  have s : hasB 1 3 (n : Int) = true := hs
  have a : hasB 1 16 fa = true := ha
  have b : hasB 0 2 fb = true := hb
  clear hs ha hb
  go_enter Tryd.func14, Tryd.ntmps14
  go_wp2_with (go_at_call 39; refine (between_any _ _ _ _).mono ?_; rintro e w' ⟨rfl, rfl⟩)
  go_loopw [6] (fun cv wr => ∃ i : Nat, cv = .int .i64 i ∧ i ≤ n ∧ Hid ((ps.take i).any wrongP = false) ∧ wr = w.alloc (Obj.cells #[.int .i64 4, .int .i64 fa, .int .i64 fb, .slice o n cap] 36)) (fun cv _ => n - (intOf cv).toNat)
  case atStart => exact ⟨0, rfl, Nat.zero_le _, ⟨rfl⟩, rfl⟩
  case round =>
    obtain ⟨i, rfl, hi, A, rfl⟩ := hrel
    by_cases hlt : i < n
    · have kl : i < ps.length := by rw [HN.out]; exact hlt
      obtain ⟨g, off, rfl, cx⟩ := (HP.out.later (show Below w.heap.size w (w.alloc (Obj.cells #[.int .i64 4, .int .i64 fa, .int .i64 fb, .slice o n cap] 36)) by go_grown)).get i kl
      have HA : Hid ((ps.take (i + 1)).any wrongP = ((ps.take i).any wrongP || wrongP (ps[i]'kl))) := ⟨by rw [List.take_succ_eq_append_getElem kl, List.any_append]; simp only [List.any_cons, List.any_nil, Bool.or_false]⟩
      have HA2 : Hid (wrongP (ps[i]'kl) = true → ps.any wrongP = true) := ⟨fun q => by rw [List.any_eq_true]; exact ⟨_, List.getElem_mem kl, q⟩⟩
      have hw : hasB 0 524288 (ps[i]'kl) = !(wrongP (ps[i]'kl)) := by
        unfold hasB wrongP
        by_cases q1 : ps[i]'kl < 0
        · simp [q1] <;> omega
        · by_cases q2 : 524288 < ps[i]'kl
          · simp [q2] <;> omega
          · simp [q1, q2] <;> omega
      generalize ps[i]'kl = m at *
      have hlt' : (i : Int) < n := by omega
      rcases Bool.eq_false_or_eq_true (wrongP m) with q | q
      · rw [q] at hw
        have HQ := Hid.mk q
        clear q
        have hw' : hasB 0 524288 m = false := hw
        clear hw
        go_wp2_with (go_at_call 39; refine (between_any _ _ _ _).mono ?_; rintro e w' ⟨rfl, rfl⟩)
        go_ret
        exact ⟨retInt (by rw [← HR.out, HA2.out HQ.out]; rfl), by go_grown⟩
      · rw [q] at hw
        have HQ := Hid.mk q
        clear q
        have hw' : hasB 0 524288 m = true := hw
        clear hw
        go_wp2_with (go_at_call 39; refine (between_any _ _ _ _).mono ?_; rintro e w' ⟨rfl, rfl⟩)
        exact ⟨⟨i + 1, by go_num, by omega, ⟨by rw [HA.out, A.out, HQ.out]; rfl⟩, by first | rfl | trivial⟩, by simp [intOf]; omega⟩
    · obtain rfl : i = n := by omega
      go_wp2
      go_ret
      exact ⟨retInt (by have := A.out; rw [List.take_of_length_le (by rw [HN.out]; omega)] at this; rw [← HR.out, this]; rfl), by go_grown⟩
set_option maxHeartbeats 1000000 in
set_option maxRecDepth 100000 in
theorem ref5_1 (fa fb : Int) (ps : List Int) (o : Option Addr) (cap : Nat) (w : World) (P : PS w o cap ps) (hs : hasB 0 0 (ps.length : Int) = false) :
    Calls Tryd.prog 14 #[.agg #[.int .i64 5, .int .i64 fa, .int .i64 fb, .slice o ps.length cap]] w fun e w' => e = .returned (.int .i64 7) ∧ Below w.heap.size w w' := by
  have HP := Hid.mk P
  obtain ⟨n, hn⟩ : ∃ n, ps.length = n := ⟨_, rfl⟩
  have hc1 : n ≤ cap := hn ▸ P.cap
  have hc2 : n ≤ 9223372036854775807 := hn ▸ P.len
  have HN := Hid.mk hn
  rw [hn] at hs ⊢
  clear hn P
  have s : ((n : Int) == 0) = false := by have := hasB_no.1 hs; simp; omega
  clear hs
  go_enter Tryd.func14, Tryd.ntmps14
  go_wp2_with (go_at_call 39; refine (between_any _ _ _ _).mono ?_; rintro e w' ⟨rfl, rfl⟩)
  all_goals go_ret
  all_goals exact ⟨rfl, by go_grown⟩
set_option maxHeartbeats 1000000 in
set_option maxRecDepth 100000 in
theorem ref5_2 (fa fb : Int) (ps : List Int) (o : Option Addr) (cap : Nat) (w : World) (P : PS w o cap ps) (hs : hasB 0 0 (ps.length : Int) = true) (ha : hasB 0 1048575 fa = false) :
    Calls Tryd.prog 14 #[.agg #[.int .i64 5, .int .i64 fa, .int .i64 fb, .slice o ps.length cap]] w fun e w' => e = .returned (.int .i64 2) ∧ Below w.heap.size w w' := by
  have HP := Hid.mk P
  obtain ⟨n, hn⟩ : ∃ n, ps.length = n := ⟨_, rfl⟩
  have hc1 : n ≤ cap := hn ▸ P.cap
  have hc2 : n ≤ 9223372036854775807 := hn ▸ P.len
  have HN := Hid.mk hn
  rw [hn] at hs ⊢
  clear hn P
  have s : ((n : Int) == 0) = true := by have := hasB_yes.1 hs; simp; omega
  have a : hasB 0 1048575 fa = false := ha
  clear hs ha
  go_enter Tryd.func14, Tryd.ntmps14
  go_wp2_with (go_at_call 39; refine (between_any _ _ _ _).mono ?_; rintro e w' ⟨rfl, rfl⟩)
  go_ret
  exact ⟨rfl, by go_grown⟩
set_option maxHeartbeats 1000000 in
set_option maxRecDepth 100000 in
theorem ref5_3 (fa fb : Int) (ps : List Int) (o : Option Addr) (cap : Nat) (w : World) (P : PS w o cap ps) (hs : hasB 0 0 (ps.length : Int) = true) (ha : hasB 0 1048575 fa = true) (hb : hasB 0 7 fb = false) :
    Calls Tryd.prog 14 #[.agg #[.int .i64 5, .int .i64 fa, .int .i64 fb, .slice o ps.length cap]] w fun e w' => e = .returned (.int .i64 2) ∧ Below w.heap.size w w' := by
  have HP := Hid.mk P
  obtain ⟨n, hn⟩ : ∃ n, ps.length = n := ⟨_, rfl⟩
  have hc1 : n ≤ cap := hn ▸ P.cap
  have hc2 : n ≤ 9223372036854775807 := hn ▸ P.len
  have HN := Hid.mk hn
  rw [hn] at hs ⊢
  clear hn P
  have s : ((n : Int) == 0) = true := by have := hasB_yes.1 hs; simp; omega
  have a : hasB 0 1048575 fa = true := ha
  have b : hasB 0 7 fb = false := hb
  clear hs ha hb
  go_enter Tryd.func14, Tryd.ntmps14
  go_wp2_with (go_at_call 39; refine (between_any _ _ _ _).mono ?_; rintro e w' ⟨rfl, rfl⟩)
  go_ret
  exact ⟨rfl, by go_grown⟩
set_option maxHeartbeats 1000000 in
set_option maxRecDepth 100000 in
theorem ref5_4 (fa fb : Int) (ps : List Int) (o : Option Addr) (cap : Nat) (w : World) (P : PS w o cap ps) (hs : hasB 0 0 (ps.length : Int) = true) (ha : hasB 0 1048575 fa = true) (hb : hasB 0 7 fb = true) :
    Calls Tryd.prog 14 #[.agg #[.int .i64 5, .int .i64 fa, .int .i64 fb, .slice o ps.length cap]] w fun e w' => e = .returned (.int .i64 (if ps.any wrongP = true then 4 else 0)) ∧ Below w.heap.size w w' := by
  have HP := Hid.mk P
  obtain ⟨n, hn⟩ : ∃ n, ps.length = n := ⟨_, rfl⟩
  have hc1 : n ≤ cap := hn ▸ P.cap
  have hc2 : n ≤ 9223372036854775807 := hn ▸ P.len
  have HN := Hid.mk hn
  rw [hn] at hs ⊢
  clear hn P
  obtain ⟨R, hR⟩ : ∃ R : Int, (if ps.any wrongP = true then (4 : Int) else 0) = R := ⟨_, rfl⟩
  rw [hR]
  have HR := Hid.mk hR
  clear hR
  have s : ((n : Int) == 0) = true := by have := hasB_yes.1 hs; simp; omega
  have a : hasB 0 1048575 fa = true := ha
  have b : hasB 0 7 fb = true := hb
  clear hs ha hb
  go_enter Tryd.func14, Tryd.ntmps14
  go_wp2_with (go_at_call 39; refine (between_any _ _ _ _).mono ?_; rintro e w' ⟨rfl, rfl⟩)
  go_loopw [6] (fun cv wr => ∃ i : Nat, cv = .int .i64 i ∧ i ≤ n ∧ Hid ((ps.take i).any wrongP = false) ∧ wr = w.alloc (Obj.cells #[.int .i64 5, .int .i64 fa, .int .i64 fb, .slice o n cap] 36)) (fun cv _ => n - (intOf cv).toNat)
  case atStart => exact ⟨0, rfl, Nat.zero_le _, ⟨rfl⟩, rfl⟩
  case round =>
    obtain ⟨i, rfl, hi, A, rfl⟩ := hrel
    by_cases hlt : i < n
    · have kl : i < ps.length := by rw [HN.out]; exact hlt
      obtain ⟨g, off, rfl, cx⟩ := (HP.out.later (show Below w.heap.size w (w.alloc (Obj.cells #[.int .i64 5, .int .i64 fa, .int .i64 fb, .slice o n cap] 36)) by go_grown)).get i kl
      have HA : Hid ((ps.take (i + 1)).any wrongP = ((ps.take i).any wrongP || wrongP (ps[i]'kl))) := ⟨by rw [List.take_succ_eq_append_getElem kl, List.any_append]; simp only [List.any_cons, List.any_nil, Bool.or_false]⟩
      have HA2 : Hid (wrongP (ps[i]'kl) = true → ps.any wrongP = true) := ⟨fun q => by rw [List.any_eq_true]; exact ⟨_, List.getElem_mem kl, q⟩⟩
      have hw : hasB 0 524288 (ps[i]'kl) = !(wrongP (ps[i]'kl)) := by
        unfold hasB wrongP
        by_cases q1 : ps[i]'kl < 0
        · simp [q1] <;> omega
        · by_cases q2 : 524288 < ps[i]'kl
          · simp [q2] <;> omega
          · simp [q1, q2] <;> omega
      generalize ps[i]'kl = m at *
      have hlt' : (i : Int) < n := by omega
      rcases Bool.eq_false_or_eq_true (wrongP m) with q | q
      · rw [q] at hw
        have HQ := Hid.mk q
        clear q
        have hw' : hasB 0 524288 m = false := hw
        clear hw
        go_wp2_with (go_at_call 39; refine (between_any _ _ _ _).mono ?_; rintro e w' ⟨rfl, rfl⟩)
        go_ret
        exact ⟨retInt (by rw [← HR.out, HA2.out HQ.out]; rfl), by go_grown⟩
      · rw [q] at hw
        have HQ := Hid.mk q
        clear q
        have hw' : hasB 0 524288 m = true := hw
        clear hw
        go_wp2_with (go_at_call 39; refine (between_any _ _ _ _).mono ?_; rintro e w' ⟨rfl, rfl⟩)
        exact ⟨⟨i + 1, by go_num, by omega, ⟨by rw [HA.out, A.out, HQ.out]; rfl⟩, by first | rfl | trivial⟩, by simp [intOf]; omega⟩
    · obtain rfl : i = n := by omega
      go_wp2
      go_ret
      exact ⟨retInt (by have := A.out; rw [List.take_of_length_le (by rw [HN.out]; omega)] at this; rw [← HR.out, this]; rfl), by go_grown⟩
theorem ref_none (f : Fr) (o : Option Addr) (cap : Nat) (w : World) (hk : ¬ (1 ≤ f.k ∧ f.k ≤ 5)) :
    Calls Tryd.prog 14 #[fv f o cap] w fun e w' => e = .returned (.int .i64 6) ∧ Below w.heap.size w w' := by
  unfold fv
  obtain ⟨fk, fa, fb, ps⟩ := f
  dsimp only at *
  generalize ps.length = n at *
  have h1 : (fk == 1) = false := by simp; omega
  have h2 : (fk == 2) = false := by simp; omega
  have h3 : (fk == 3) = false := by simp; omega
  have h4 : (fk == 4) = false := by simp; omega
  have h5 : (fk == 5) = false := by simp; omega
  clear hk
  go_enter Tryd.func14, Tryd.ntmps14
  go_wp2
  go_ret
  exact ⟨rfl, by go_grown⟩
theorem ref_1 (fa fb : Int) (ps : List Int) (o : Option Addr) (cap : Nat) (w : World) (P : PS w o cap ps) :
    Calls Tryd.prog 14 #[.agg #[.int .i64 1, .int .i64 fa, .int .i64 fb, .slice o ps.length cap]] w fun e w' => e = .returned (.int .i64 (rightK 1 ⟨1, fa, fb, ps⟩)) ∧ Below w.heap.size w w' := by
  have e : rightK 1 ⟨1, fa, fb, ps⟩ = (if hasB 0 1000 (ps.length : Int) = false then 7 else if hasB 0 1048575 fa = false then 2 else if hasB 0 0 fb = false then 2 else if ps.any wrongP = true then 4 else 0) := rfl
  rw [e]
  by_cases h1 : hasB 0 1000 (ps.length : Int) = false
  · rw [if_pos h1]
    exact ref1_1 fa fb ps o cap w P h1
  rw [if_neg h1]
  have g1 : hasB 0 1000 (ps.length : Int) = true := by simpa using h1
  by_cases h2 : hasB 0 1048575 fa = false
  · rw [if_pos h2]
    exact ref1_2 fa fb ps o cap w P g1 h2
  rw [if_neg h2]
  have g2 : hasB 0 1048575 fa = true := by simpa using h2
  by_cases h3 : hasB 0 0 fb = false
  · rw [if_pos h3]
    exact ref1_3 fa fb ps o cap w P g1 g2 h3
  rw [if_neg h3]
  exact ref1_4 fa fb ps o cap w P g1 g2 (by simpa using h3)
theorem ref_2 (fa fb : Int) (ps : List Int) (o : Option Addr) (cap : Nat) (w : World) (P : PS w o cap ps) :
    Calls Tryd.prog 14 #[.agg #[.int .i64 2, .int .i64 fa, .int .i64 fb, .slice o ps.length cap]] w fun e w' => e = .returned (.int .i64 (rightK 2 ⟨2, fa, fb, ps⟩)) ∧ Below w.heap.size w w' := by
  have e : rightK 2 ⟨2, fa, fb, ps⟩ = (if hasB 1 1 (ps.length : Int) = false then 7 else if hasB 0 0 fa = false then 2 else if hasB 0 0 fb = false then 2 else if ps.any wrongP = true then 4 else 0) := rfl
  rw [e]
  by_cases h1 : hasB 1 1 (ps.length : Int) = false
  · rw [if_pos h1]
    exact ref2_1 fa fb ps o cap w P h1
  rw [if_neg h1]
  have g1 : hasB 1 1 (ps.length : Int) = true := by simpa using h1
  by_cases h2 : hasB 0 0 fa = false
  · rw [if_pos h2]
    exact ref2_2 fa fb ps o cap w P g1 h2
  rw [if_neg h2]
  have g2 : hasB 0 0 fa = true := by simpa using h2
  by_cases h3 : hasB 0 0 fb = false
  · rw [if_pos h3]
    exact ref2_3 fa fb ps o cap w P g1 g2 h3
  rw [if_neg h3]
  exact ref2_4 fa fb ps o cap w P g1 g2 (by simpa using h3)
theorem ref_3 (fa fb : Int) (ps : List Int) (o : Option Addr) (cap : Nat) (w : World) (P : PS w o cap ps) :
    Calls Tryd.prog 14 #[.agg #[.int .i64 3, .int .i64 fa, .int .i64 fb, .slice o ps.length cap]] w fun e w' => e = .returned (.int .i64 (rightK 3 ⟨3, fa, fb, ps⟩)) ∧ Below w.heap.size w w' := by
  have e : rightK 3 ⟨3, fa, fb, ps⟩ = (if hasB 1 8 (ps.length : Int) = false then 7 else if hasB 0 0 fa = false then 2 else if hasB 0 0 fb = false then 2 else if ps.any wrongP = true then 4 else 0) := rfl
  rw [e]
  by_cases h1 : hasB 1 8 (ps.length : Int) = false
  · rw [if_pos h1]
    exact ref3_1 fa fb ps o cap w P h1
  rw [if_neg h1]
  have g1 : hasB 1 8 (ps.length : Int) = true := by simpa using h1
  by_cases h2 : hasB 0 0 fa = false
  · rw [if_pos h2]
    exact ref3_2 fa fb ps o cap w P g1 h2
  rw [if_neg h2]
  have g2 : hasB 0 0 fa = true := by simpa using h2
  by_cases h3 : hasB 0 0 fb = false
  · rw [if_pos h3]
    exact ref3_3 fa fb ps o cap w P g1 g2 h3
  rw [if_neg h3]
  exact ref3_4 fa fb ps o cap w P g1 g2 (by simpa using h3)
theorem ref_4 (fa fb : Int) (ps : List Int) (o : Option Addr) (cap : Nat) (w : World) (P : PS w o cap ps) :
    Calls Tryd.prog 14 #[.agg #[.int .i64 4, .int .i64 fa, .int .i64 fb, .slice o ps.length cap]] w fun e w' => e = .returned (.int .i64 (rightK 4 ⟨4, fa, fb, ps⟩)) ∧ Below w.heap.size w w' := by
  have e : rightK 4 ⟨4, fa, fb, ps⟩ = (if hasB 1 3 (ps.length : Int) = false then 7 else if hasB 1 16 fa = false then 2 else if hasB 0 2 fb = false then 2 else if ps.any wrongP = true then 4 else 0) := rfl
  rw [e]
  by_cases h1 : hasB 1 3 (ps.length : Int) = false
  · rw [if_pos h1]
    exact ref4_1 fa fb ps o cap w P h1
  rw [if_neg h1]
  have g1 : hasB 1 3 (ps.length : Int) = true := by simpa using h1
  by_cases h2 : hasB 1 16 fa = false
  · rw [if_pos h2]
    exact ref4_2 fa fb ps o cap w P g1 h2
  rw [if_neg h2]
  have g2 : hasB 1 16 fa = true := by simpa using h2
  by_cases h3 : hasB 0 2 fb = false
  · rw [if_pos h3]
    exact ref4_3 fa fb ps o cap w P g1 g2 h3
  rw [if_neg h3]
  exact ref4_4 fa fb ps o cap w P g1 g2 (by simpa using h3)
theorem ref_5 (fa fb : Int) (ps : List Int) (o : Option Addr) (cap : Nat) (w : World) (P : PS w o cap ps) :
    Calls Tryd.prog 14 #[.agg #[.int .i64 5, .int .i64 fa, .int .i64 fb, .slice o ps.length cap]] w fun e w' => e = .returned (.int .i64 (rightK 5 ⟨5, fa, fb, ps⟩)) ∧ Below w.heap.size w w' := by
  have e : rightK 5 ⟨5, fa, fb, ps⟩ = (if hasB 0 0 (ps.length : Int) = false then 7 else if hasB 0 1048575 fa = false then 2 else if hasB 0 7 fb = false then 2 else if ps.any wrongP = true then 4 else 0) := rfl
  rw [e]
  by_cases h1 : hasB 0 0 (ps.length : Int) = false
  · rw [if_pos h1]
    exact ref5_1 fa fb ps o cap w P h1
  rw [if_neg h1]
  have g1 : hasB 0 0 (ps.length : Int) = true := by simpa using h1
  by_cases h2 : hasB 0 1048575 fa = false
  · rw [if_pos h2]
    exact ref5_2 fa fb ps o cap w P g1 h2
  rw [if_neg h2]
  have g2 : hasB 0 1048575 fa = true := by simpa using h2
  by_cases h3 : hasB 0 7 fb = false
  · rw [if_pos h3]
    exact ref5_3 fa fb ps o cap w P g1 g2 h3
  rw [if_neg h3]
  exact ref5_4 fa fb ps o cap w P g1 g2 (by simpa using h3)
/-- the document's Right, of whatever frame -/
theorem ref_any (f : Fr) (o : Option Addr) (cap : Nat) (w : World) (P : PS w o cap f.ps) :
    Calls Tryd.prog 14 #[fv f o cap] w fun e w' => e = .returned (.int .i64 (rightE f)) ∧ Below w.heap.size w w' := by
  by_cases hk : 1 ≤ f.k ∧ f.k ≤ 5
  · have e : rightE f = rightK f.k.toNat f := by unfold rightE; rw [if_pos hk]
    rw [e]
    obtain ⟨fk, fa, fb, ps⟩ := f
    dsimp only at *
    have c : fk = 1 ∨ fk = 2 ∨ fk = 3 ∨ fk = 4 ∨ fk = 5 := by omega
    rcases c with rfl | rfl | rfl | rfl | rfl
    · exact ref_1 fa fb ps o cap w P
    · exact ref_2 fa fb ps o cap w P
    · exact ref_3 fa fb ps o cap w P
    · exact ref_4 fa fb ps o cap w P
    · exact ref_5 fa fb ps o cap w P
  · have e : rightE f = 6 := by unfold rightE; rw [if_neg hk]
    rw [e]
    exact ref_none f o cap w hk
end Go.Proofs.YtglimbpnekephaaDoor
