/- Each of a list is asked by a function that is handed in. -/
import Derived.Test.YtidplckoolmaiaaDoorCda
namespace Go.Proofs.YtidplckoolmaiaaDoor
open Go.RowKit
set_option linter.unusedVariables false
set_option linter.unusedSimpArgs false

def isWay (y : Int × Int) (c : List Value) : Prop := c = [.int .i64 y.1, .int .i64 y.2]
set_option maxHeartbeats 1000000 in
theorem all57_58 (l : List Mk) (v : Value) (w : World) (h : Lst w 4 (isMk w) l v) (f : Mk → Bool)
    (C : ∀ W, Below w.heap.size w W → ∀ m ∈ l, ∀ vf, Lst W 1 isInt m.fr vf → Calls Tryd.prog 58 #[.agg #[.int .i64 m.k, .int .i64 m.i, .int .i64 m.n, vf]] W fun e w' => e = .returned (.bool (f m)) ∧ Below W.heap.size W w') :
    Calls Tryd.prog 57 #[v, .func (.func 58) #[] #[]] w fun e w' => e = .returned (.bool (l.all f)) ∧ Below w.heap.size w w' := by
  have H := Hid.mk h
  have HC := Hid.mk C
  obtain ⟨ga, cap, rfl, hc, hx⟩ := h
  obtain ⟨n, hn⟩ : ∃ n, l.length = n := ⟨_, rfl⟩
  have HN := Hid.mk hn
  rw [hn] at hc ⊢
  have hc1 := hc.1
  have hc2 := hc.2
  clear hx hn C hc
  unfold maxLen at hc2
  go_enter Tryd.func57, Tryd.ntmps57
  go_wp2
  go_loopw [9] (fun c wr => ∃ i : Nat, c = .int .i64 i ∧ i ≤ n ∧ Hid ((l.take i).all f = true) ∧ Hid (Below w.heap.size w wr)) (fun c _ => n - (intOf c).toNat)
  case atStart => exact ⟨0, rfl, Nat.zero_le _, ⟨rfl⟩, ⟨Below.refl _ _⟩⟩
  case round =>
    obtain ⟨i, rfl, hi, A, BB⟩ := hrel
    by_cases hlt : i < n
    · have kl : i < l.length := by rw [HN.out]; exact hlt
      obtain ⟨g, off, cap', c, e, _, _, pc, hx⟩ := (H.out.later BB.out fun _ _ h => isMk_later BB.out h : Lst wr 4 (isMk wr) l _).get i kl
      rw [HN.out] at e
      simp only [Value.slice.injEq] at e
      obtain ⟨rfl, _, rfl⟩ := e
      have hm := List.getElem_mem kl
      have HA : Hid ((l.take (i + 1)).all f = ((l.take i).all f && f (l[i]'kl))) := ⟨by rw [List.take_succ_eq_append_getElem kl, List.all_append]; simp only [List.all_cons, List.all_nil, Bool.and_true]⟩
      have HA2 : Hid (f (l[i]'kl) = false → l.all f = false) := ⟨fun q => by rw [List.all_eq_false]; exact ⟨_, hm, by rw [q]; simp⟩⟩
      have HM := Hid.mk hm
      clear hm
      generalize l[i]'kl = m at *
      obtain ⟨vf, rfl, hf⟩ := pc
      have HF := Hid.mk hf
      obtain ⟨gf, cf, rfl, _⟩ := hf
      have c0 : wr.cell? ⟨g, off + i * 4, none⟩ = some (.int .i64 m.k) := hx 0 _ rfl
      have c1 : wr.cell? ⟨g, off + i * 4 + 1, none⟩ = some (.int .i64 m.i) := hx 1 _ rfl
      have c2 : wr.cell? ⟨g, off + i * 4 + 2, none⟩ = some (.int .i64 m.n) := hx 2 _ rfl
      have c3 : wr.cell? ⟨g, off + i * 4 + 3, none⟩ = some (.slice gf m.fr.length cf) := hx 3 _ rfl
      have CW := HC.out (wr.alloc (.cells #[.int .i64 m.k, .int .i64 m.i, .int .i64 m.n, .slice gf m.fr.length cf] 30)) (belowOn BB.out (by go_grown)) m HM.out _ (HF.out.later (by go_grown) fun _ _ h => h)
      have hlt' : (i : Int) < n := by omega
      clear hx
      rcases Bool.eq_false_or_eq_true (f m) with q | q
      · rw [q] at CW
        have HQ := Hid.mk q
        clear q
        go_wp2_with (go_at_call 58; refine CW.mono ?_; rintro e w' ⟨rfl, B⟩)
        exact ⟨⟨i + 1, by go_num, by omega, ⟨by rw [HA.out, A.out, HQ.out]; rfl⟩, ⟨belowOn BB.out (belowOn (by go_grown) B)⟩⟩, by simp [intOf]; omega⟩
      · rw [q] at CW
        have HQ := Hid.mk q
        clear q
        go_wp2_with (go_at_call 58; refine CW.mono ?_; rintro e w' ⟨rfl, B⟩)
        go_ret
        exact ⟨retBool (HA2.out HQ.out).symm, belowOn BB.out (belowOn (by go_grown) B)⟩
    · obtain rfl : i = n := by omega
      go_wp2
      go_ret
      exact ⟨retBool (by have := A.out; rw [List.take_of_length_le (by rw [HN.out]; omega)] at this; exact this.symm), BB.out⟩

set_option maxHeartbeats 1000000 in
theorem all57_61 (l : List Mk) (v : Value) (w : World) (h : Lst w 4 (isMk w) l v) (u : Value) (f : Mk → Bool)
    (C : ∀ W, Below w.heap.size w W → ∀ m ∈ l, ∀ vf, Lst W 1 isInt m.fr vf → Calls Tryd.prog 61 #[u, .agg #[.int .i64 m.k, .int .i64 m.i, .int .i64 m.n, vf]] W fun e w' => e = .returned (.bool (f m)) ∧ Below W.heap.size W w') :
    Calls Tryd.prog 57 #[v, .func (.func 61) #[u] #[]] w fun e w' => e = .returned (.bool (l.all f)) ∧ Below w.heap.size w w' := by
  have H := Hid.mk h
  have HC := Hid.mk C
  obtain ⟨ga, cap, rfl, hc, hx⟩ := h
  obtain ⟨n, hn⟩ : ∃ n, l.length = n := ⟨_, rfl⟩
  have HN := Hid.mk hn
  rw [hn] at hc ⊢
  have hc1 := hc.1
  have hc2 := hc.2
  clear hx hn C hc
  unfold maxLen at hc2
  go_enter Tryd.func57, Tryd.ntmps57
  go_wp2
  go_loopw [9] (fun c wr => ∃ i : Nat, c = .int .i64 i ∧ i ≤ n ∧ Hid ((l.take i).all f = true) ∧ Hid (Below w.heap.size w wr)) (fun c _ => n - (intOf c).toNat)
  case atStart => exact ⟨0, rfl, Nat.zero_le _, ⟨rfl⟩, ⟨Below.refl _ _⟩⟩
  case round =>
    obtain ⟨i, rfl, hi, A, BB⟩ := hrel
    by_cases hlt : i < n
    · have kl : i < l.length := by rw [HN.out]; exact hlt
      obtain ⟨g, off, cap', c, e, _, _, pc, hx⟩ := (H.out.later BB.out fun _ _ h => isMk_later BB.out h : Lst wr 4 (isMk wr) l _).get i kl
      rw [HN.out] at e
      simp only [Value.slice.injEq] at e
      obtain ⟨rfl, _, rfl⟩ := e
      have hm := List.getElem_mem kl
      have HA : Hid ((l.take (i + 1)).all f = ((l.take i).all f && f (l[i]'kl))) := ⟨by rw [List.take_succ_eq_append_getElem kl, List.all_append]; simp only [List.all_cons, List.all_nil, Bool.and_true]⟩
      have HA2 : Hid (f (l[i]'kl) = false → l.all f = false) := ⟨fun q => by rw [List.all_eq_false]; exact ⟨_, hm, by rw [q]; simp⟩⟩
      have HM := Hid.mk hm
      clear hm
      generalize l[i]'kl = m at *
      obtain ⟨vf, rfl, hf⟩ := pc
      have HF := Hid.mk hf
      obtain ⟨gf, cf, rfl, _⟩ := hf
      have c0 : wr.cell? ⟨g, off + i * 4, none⟩ = some (.int .i64 m.k) := hx 0 _ rfl
      have c1 : wr.cell? ⟨g, off + i * 4 + 1, none⟩ = some (.int .i64 m.i) := hx 1 _ rfl
      have c2 : wr.cell? ⟨g, off + i * 4 + 2, none⟩ = some (.int .i64 m.n) := hx 2 _ rfl
      have c3 : wr.cell? ⟨g, off + i * 4 + 3, none⟩ = some (.slice gf m.fr.length cf) := hx 3 _ rfl
      have CW := HC.out (wr.alloc (.cells #[.int .i64 m.k, .int .i64 m.i, .int .i64 m.n, .slice gf m.fr.length cf] 30)) (belowOn BB.out (by go_grown)) m HM.out _ (HF.out.later (by go_grown) fun _ _ h => h)
      have hlt' : (i : Int) < n := by omega
      clear hx
      rcases Bool.eq_false_or_eq_true (f m) with q | q
      · rw [q] at CW
        have HQ := Hid.mk q
        clear q
        go_wp2_with (go_at_call 61; refine CW.mono ?_; rintro e w' ⟨rfl, B⟩)
        exact ⟨⟨i + 1, by go_num, by omega, ⟨by rw [HA.out, A.out, HQ.out]; rfl⟩, ⟨belowOn BB.out (belowOn (by go_grown) B)⟩⟩, by simp [intOf]; omega⟩
      · rw [q] at CW
        have HQ := Hid.mk q
        clear q
        go_wp2_with (go_at_call 61; refine CW.mono ?_; rintro e w' ⟨rfl, B⟩)
        go_ret
        exact ⟨retBool (HA2.out HQ.out).symm, belowOn BB.out (belowOn (by go_grown) B)⟩
    · obtain rfl : i = n := by omega
      go_wp2
      go_ret
      exact ⟨retBool (by have := A.out; rw [List.take_of_length_le (by rw [HN.out]; omega)] at this; exact this.symm), BB.out⟩

set_option maxHeartbeats 1000000 in
theorem all57_63 (l : List Mk) (v : Value) (w : World) (h : Lst w 4 (isMk w) l v) (u : Value) (f : Mk → Bool)
    (C : ∀ W, Below w.heap.size w W → ∀ m ∈ l, ∀ vf, Lst W 1 isInt m.fr vf → Calls Tryd.prog 63 #[u, .agg #[.int .i64 m.k, .int .i64 m.i, .int .i64 m.n, vf]] W fun e w' => e = .returned (.bool (f m)) ∧ Below W.heap.size W w') :
    Calls Tryd.prog 57 #[v, .func (.func 63) #[u] #[]] w fun e w' => e = .returned (.bool (l.all f)) ∧ Below w.heap.size w w' := by
  have H := Hid.mk h
  have HC := Hid.mk C
  obtain ⟨ga, cap, rfl, hc, hx⟩ := h
  obtain ⟨n, hn⟩ : ∃ n, l.length = n := ⟨_, rfl⟩
  have HN := Hid.mk hn
  rw [hn] at hc ⊢
  have hc1 := hc.1
  have hc2 := hc.2
  clear hx hn C hc
  unfold maxLen at hc2
  go_enter Tryd.func57, Tryd.ntmps57
  go_wp2
  go_loopw [9] (fun c wr => ∃ i : Nat, c = .int .i64 i ∧ i ≤ n ∧ Hid ((l.take i).all f = true) ∧ Hid (Below w.heap.size w wr)) (fun c _ => n - (intOf c).toNat)
  case atStart => exact ⟨0, rfl, Nat.zero_le _, ⟨rfl⟩, ⟨Below.refl _ _⟩⟩
  case round =>
    obtain ⟨i, rfl, hi, A, BB⟩ := hrel
    by_cases hlt : i < n
    · have kl : i < l.length := by rw [HN.out]; exact hlt
      obtain ⟨g, off, cap', c, e, _, _, pc, hx⟩ := (H.out.later BB.out fun _ _ h => isMk_later BB.out h : Lst wr 4 (isMk wr) l _).get i kl
      rw [HN.out] at e
      simp only [Value.slice.injEq] at e
      obtain ⟨rfl, _, rfl⟩ := e
      have hm := List.getElem_mem kl
      have HA : Hid ((l.take (i + 1)).all f = ((l.take i).all f && f (l[i]'kl))) := ⟨by rw [List.take_succ_eq_append_getElem kl, List.all_append]; simp only [List.all_cons, List.all_nil, Bool.and_true]⟩
      have HA2 : Hid (f (l[i]'kl) = false → l.all f = false) := ⟨fun q => by rw [List.all_eq_false]; exact ⟨_, hm, by rw [q]; simp⟩⟩
      have HM := Hid.mk hm
      clear hm
      generalize l[i]'kl = m at *
      obtain ⟨vf, rfl, hf⟩ := pc
      have HF := Hid.mk hf
      obtain ⟨gf, cf, rfl, _⟩ := hf
      have c0 : wr.cell? ⟨g, off + i * 4, none⟩ = some (.int .i64 m.k) := hx 0 _ rfl
      have c1 : wr.cell? ⟨g, off + i * 4 + 1, none⟩ = some (.int .i64 m.i) := hx 1 _ rfl
      have c2 : wr.cell? ⟨g, off + i * 4 + 2, none⟩ = some (.int .i64 m.n) := hx 2 _ rfl
      have c3 : wr.cell? ⟨g, off + i * 4 + 3, none⟩ = some (.slice gf m.fr.length cf) := hx 3 _ rfl
      have CW := HC.out (wr.alloc (.cells #[.int .i64 m.k, .int .i64 m.i, .int .i64 m.n, .slice gf m.fr.length cf] 30)) (belowOn BB.out (by go_grown)) m HM.out _ (HF.out.later (by go_grown) fun _ _ h => h)
      have hlt' : (i : Int) < n := by omega
      clear hx
      rcases Bool.eq_false_or_eq_true (f m) with q | q
      · rw [q] at CW
        have HQ := Hid.mk q
        clear q
        go_wp2_with (go_at_call 63; refine CW.mono ?_; rintro e w' ⟨rfl, B⟩)
        exact ⟨⟨i + 1, by go_num, by omega, ⟨by rw [HA.out, A.out, HQ.out]; rfl⟩, ⟨belowOn BB.out (belowOn (by go_grown) B)⟩⟩, by simp [intOf]; omega⟩
      · rw [q] at CW
        have HQ := Hid.mk q
        clear q
        go_wp2_with (go_at_call 63; refine CW.mono ?_; rintro e w' ⟨rfl, B⟩)
        go_ret
        exact ⟨retBool (HA2.out HQ.out).symm, belowOn BB.out (belowOn (by go_grown) B)⟩
    · obtain rfl : i = n := by omega
      go_wp2
      go_ret
      exact ⟨retBool (by have := A.out; rw [List.take_of_length_le (by rw [HN.out]; omega)] at this; exact this.symm), BB.out⟩

set_option maxHeartbeats 1000000 in
theorem all57_69 (l : List Mk) (v : Value) (w : World) (h : Lst w 4 (isMk w) l v) (u : Value) (f : Mk → Bool)
    (C : ∀ W, Below w.heap.size w W → ∀ m ∈ l, ∀ vf, Lst W 1 isInt m.fr vf → Calls Tryd.prog 69 #[.agg #[.int .i64 m.k, .int .i64 m.i, .int .i64 m.n, vf], u] W fun e w' => e = .returned (.bool (f m)) ∧ Below W.heap.size W w') :
    Calls Tryd.prog 57 #[v, .func (.func 69) #[] #[u]] w fun e w' => e = .returned (.bool (l.all f)) ∧ Below w.heap.size w w' := by
  have H := Hid.mk h
  have HC := Hid.mk C
  obtain ⟨ga, cap, rfl, hc, hx⟩ := h
  obtain ⟨n, hn⟩ : ∃ n, l.length = n := ⟨_, rfl⟩
  have HN := Hid.mk hn
  rw [hn] at hc ⊢
  have hc1 := hc.1
  have hc2 := hc.2
  clear hx hn C hc
  unfold maxLen at hc2
  go_enter Tryd.func57, Tryd.ntmps57
  go_wp2
  go_loopw [9] (fun c wr => ∃ i : Nat, c = .int .i64 i ∧ i ≤ n ∧ Hid ((l.take i).all f = true) ∧ Hid (Below w.heap.size w wr)) (fun c _ => n - (intOf c).toNat)
  case atStart => exact ⟨0, rfl, Nat.zero_le _, ⟨rfl⟩, ⟨Below.refl _ _⟩⟩
  case round =>
    obtain ⟨i, rfl, hi, A, BB⟩ := hrel
    by_cases hlt : i < n
    · have kl : i < l.length := by rw [HN.out]; exact hlt
      obtain ⟨g, off, cap', c, e, _, _, pc, hx⟩ := (H.out.later BB.out fun _ _ h => isMk_later BB.out h : Lst wr 4 (isMk wr) l _).get i kl
      rw [HN.out] at e
      simp only [Value.slice.injEq] at e
      obtain ⟨rfl, _, rfl⟩ := e
      have hm := List.getElem_mem kl
      have HA : Hid ((l.take (i + 1)).all f = ((l.take i).all f && f (l[i]'kl))) := ⟨by rw [List.take_succ_eq_append_getElem kl, List.all_append]; simp only [List.all_cons, List.all_nil, Bool.and_true]⟩
      have HA2 : Hid (f (l[i]'kl) = false → l.all f = false) := ⟨fun q => by rw [List.all_eq_false]; exact ⟨_, hm, by rw [q]; simp⟩⟩
      have HM := Hid.mk hm
      clear hm
      generalize l[i]'kl = m at *
      obtain ⟨vf, rfl, hf⟩ := pc
      have HF := Hid.mk hf
      obtain ⟨gf, cf, rfl, _⟩ := hf
      have c0 : wr.cell? ⟨g, off + i * 4, none⟩ = some (.int .i64 m.k) := hx 0 _ rfl
      have c1 : wr.cell? ⟨g, off + i * 4 + 1, none⟩ = some (.int .i64 m.i) := hx 1 _ rfl
      have c2 : wr.cell? ⟨g, off + i * 4 + 2, none⟩ = some (.int .i64 m.n) := hx 2 _ rfl
      have c3 : wr.cell? ⟨g, off + i * 4 + 3, none⟩ = some (.slice gf m.fr.length cf) := hx 3 _ rfl
      have CW := HC.out (wr.alloc (.cells #[.int .i64 m.k, .int .i64 m.i, .int .i64 m.n, .slice gf m.fr.length cf] 30)) (belowOn BB.out (by go_grown)) m HM.out _ (HF.out.later (by go_grown) fun _ _ h => h)
      have hlt' : (i : Int) < n := by omega
      clear hx
      rcases Bool.eq_false_or_eq_true (f m) with q | q
      · rw [q] at CW
        have HQ := Hid.mk q
        clear q
        go_wp2_with (go_at_call 69; refine CW.mono ?_; rintro e w' ⟨rfl, B⟩)
        exact ⟨⟨i + 1, by go_num, by omega, ⟨by rw [HA.out, A.out, HQ.out]; rfl⟩, ⟨belowOn BB.out (belowOn (by go_grown) B)⟩⟩, by simp [intOf]; omega⟩
      · rw [q] at CW
        have HQ := Hid.mk q
        clear q
        go_wp2_with (go_at_call 69; refine CW.mono ?_; rintro e w' ⟨rfl, B⟩)
        go_ret
        exact ⟨retBool (HA2.out HQ.out).symm, belowOn BB.out (belowOn (by go_grown) B)⟩
    · obtain rfl : i = n := by omega
      go_wp2
      go_ret
      exact ⟨retBool (by have := A.out; rw [List.take_of_length_le (by rw [HN.out]; omega)] at this; exact this.symm), BB.out⟩

set_option maxHeartbeats 1000000 in
theorem all59_60 (l : List Arm) (v : Value) (w : World) (h : Lst w 4 isArm l v) (f : Arm → Bool)
    (C : ∀ W, Below w.heap.size w W → ∀ m ∈ l, Calls Tryd.prog 60 #[.agg #[.int .i64 m.k, .int .i64 m.c, .int .i64 m.n, .int .i64 m.t]] W fun e w' => e = .returned (.bool (f m)) ∧ Below W.heap.size W w') :
    Calls Tryd.prog 59 #[v, .func (.func 60) #[] #[]] w fun e w' => e = .returned (.bool (l.all f)) ∧ Below w.heap.size w w' := by
  have H := Hid.mk h
  have HC := Hid.mk C
  obtain ⟨ga, cap, rfl, hc, hx⟩ := h
  obtain ⟨n, hn⟩ : ∃ n, l.length = n := ⟨_, rfl⟩
  have HN := Hid.mk hn
  rw [hn] at hc ⊢
  have hc1 := hc.1
  have hc2 := hc.2
  clear hx hn C hc
  unfold maxLen at hc2
  go_enter Tryd.func59, Tryd.ntmps59
  go_wp2
  go_loopw [9] (fun c wr => ∃ i : Nat, c = .int .i64 i ∧ i ≤ n ∧ Hid ((l.take i).all f = true) ∧ Hid (Below w.heap.size w wr)) (fun c _ => n - (intOf c).toNat)
  case atStart => exact ⟨0, rfl, Nat.zero_le _, ⟨rfl⟩, ⟨Below.refl _ _⟩⟩
  case round =>
    obtain ⟨i, rfl, hi, A, BB⟩ := hrel
    by_cases hlt : i < n
    · have kl : i < l.length := by rw [HN.out]; exact hlt
      obtain ⟨g, off, cap', c, e, _, _, pc, hx⟩ := (H.out.later BB.out fun _ _ h => h : Lst wr 4 isArm l _).get i kl
      rw [HN.out] at e
      simp only [Value.slice.injEq] at e
      obtain ⟨rfl, _, rfl⟩ := e
      have hm := List.getElem_mem kl
      have HA : Hid ((l.take (i + 1)).all f = ((l.take i).all f && f (l[i]'kl))) := ⟨by rw [List.take_succ_eq_append_getElem kl, List.all_append]; simp only [List.all_cons, List.all_nil, Bool.and_true]⟩
      have HA2 : Hid (f (l[i]'kl) = false → l.all f = false) := ⟨fun q => by rw [List.all_eq_false]; exact ⟨_, hm, by rw [q]; simp⟩⟩
      have HM := Hid.mk hm
      clear hm
      generalize l[i]'kl = m at *
      subst pc
      have c0 : wr.cell? ⟨g, off + i * 4, none⟩ = some (.int .i64 m.k) := hx 0 _ rfl
      have c1 : wr.cell? ⟨g, off + i * 4 + 1, none⟩ = some (.int .i64 m.c) := hx 1 _ rfl
      have c2 : wr.cell? ⟨g, off + i * 4 + 2, none⟩ = some (.int .i64 m.n) := hx 2 _ rfl
      have c3 : wr.cell? ⟨g, off + i * 4 + 3, none⟩ = some (.int .i64 m.t) := hx 3 _ rfl
      have CW := HC.out (wr.alloc (.cells #[.int .i64 m.k, .int .i64 m.c, .int .i64 m.n, .int .i64 m.t] 73)) (belowOn BB.out (by go_grown)) m HM.out 
      have hlt' : (i : Int) < n := by omega
      clear hx
      rcases Bool.eq_false_or_eq_true (f m) with q | q
      · rw [q] at CW
        have HQ := Hid.mk q
        clear q
        go_wp2_with (go_at_call 60; refine CW.mono ?_; rintro e w' ⟨rfl, B⟩)
        exact ⟨⟨i + 1, by go_num, by omega, ⟨by rw [HA.out, A.out, HQ.out]; rfl⟩, ⟨belowOn BB.out (belowOn (by go_grown) B)⟩⟩, by simp [intOf]; omega⟩
      · rw [q] at CW
        have HQ := Hid.mk q
        clear q
        go_wp2_with (go_at_call 60; refine CW.mono ?_; rintro e w' ⟨rfl, B⟩)
        go_ret
        exact ⟨retBool (HA2.out HQ.out).symm, belowOn BB.out (belowOn (by go_grown) B)⟩
    · obtain rfl : i = n := by omega
      go_wp2
      go_ret
      exact ⟨retBool (by have := A.out; rw [List.take_of_length_le (by rw [HN.out]; omega)] at this; exact this.symm), BB.out⟩

set_option maxHeartbeats 1000000 in
theorem all59_64 (l : List Arm) (v : Value) (w : World) (h : Lst w 4 isArm l v) (u : Value) (f : Arm → Bool)
    (C : ∀ W, Below w.heap.size w W → ∀ m ∈ l, Calls Tryd.prog 64 #[.agg #[.int .i64 m.k, .int .i64 m.c, .int .i64 m.n, .int .i64 m.t], u] W fun e w' => e = .returned (.bool (f m)) ∧ Below W.heap.size W w') :
    Calls Tryd.prog 59 #[v, .func (.func 64) #[] #[u]] w fun e w' => e = .returned (.bool (l.all f)) ∧ Below w.heap.size w w' := by
  have H := Hid.mk h
  have HC := Hid.mk C
  obtain ⟨ga, cap, rfl, hc, hx⟩ := h
  obtain ⟨n, hn⟩ : ∃ n, l.length = n := ⟨_, rfl⟩
  have HN := Hid.mk hn
  rw [hn] at hc ⊢
  have hc1 := hc.1
  have hc2 := hc.2
  clear hx hn C hc
  unfold maxLen at hc2
  go_enter Tryd.func59, Tryd.ntmps59
  go_wp2
  go_loopw [9] (fun c wr => ∃ i : Nat, c = .int .i64 i ∧ i ≤ n ∧ Hid ((l.take i).all f = true) ∧ Hid (Below w.heap.size w wr)) (fun c _ => n - (intOf c).toNat)
  case atStart => exact ⟨0, rfl, Nat.zero_le _, ⟨rfl⟩, ⟨Below.refl _ _⟩⟩
  case round =>
    obtain ⟨i, rfl, hi, A, BB⟩ := hrel
    by_cases hlt : i < n
    · have kl : i < l.length := by rw [HN.out]; exact hlt
      obtain ⟨g, off, cap', c, e, _, _, pc, hx⟩ := (H.out.later BB.out fun _ _ h => h : Lst wr 4 isArm l _).get i kl
      rw [HN.out] at e
      simp only [Value.slice.injEq] at e
      obtain ⟨rfl, _, rfl⟩ := e
      have hm := List.getElem_mem kl
      have HA : Hid ((l.take (i + 1)).all f = ((l.take i).all f && f (l[i]'kl))) := ⟨by rw [List.take_succ_eq_append_getElem kl, List.all_append]; simp only [List.all_cons, List.all_nil, Bool.and_true]⟩
      have HA2 : Hid (f (l[i]'kl) = false → l.all f = false) := ⟨fun q => by rw [List.all_eq_false]; exact ⟨_, hm, by rw [q]; simp⟩⟩
      have HM := Hid.mk hm
      clear hm
      generalize l[i]'kl = m at *
      subst pc
      have c0 : wr.cell? ⟨g, off + i * 4, none⟩ = some (.int .i64 m.k) := hx 0 _ rfl
      have c1 : wr.cell? ⟨g, off + i * 4 + 1, none⟩ = some (.int .i64 m.c) := hx 1 _ rfl
      have c2 : wr.cell? ⟨g, off + i * 4 + 2, none⟩ = some (.int .i64 m.n) := hx 2 _ rfl
      have c3 : wr.cell? ⟨g, off + i * 4 + 3, none⟩ = some (.int .i64 m.t) := hx 3 _ rfl
      have CW := HC.out (wr.alloc (.cells #[.int .i64 m.k, .int .i64 m.c, .int .i64 m.n, .int .i64 m.t] 73)) (belowOn BB.out (by go_grown)) m HM.out 
      have hlt' : (i : Int) < n := by omega
      clear hx
      rcases Bool.eq_false_or_eq_true (f m) with q | q
      · rw [q] at CW
        have HQ := Hid.mk q
        clear q
        go_wp2_with (go_at_call 64; refine CW.mono ?_; rintro e w' ⟨rfl, B⟩)
        exact ⟨⟨i + 1, by go_num, by omega, ⟨by rw [HA.out, A.out, HQ.out]; rfl⟩, ⟨belowOn BB.out (belowOn (by go_grown) B)⟩⟩, by simp [intOf]; omega⟩
      · rw [q] at CW
        have HQ := Hid.mk q
        clear q
        go_wp2_with (go_at_call 64; refine CW.mono ?_; rintro e w' ⟨rfl, B⟩)
        go_ret
        exact ⟨retBool (HA2.out HQ.out).symm, belowOn BB.out (belowOn (by go_grown) B)⟩
    · obtain rfl : i = n := by omega
      go_wp2
      go_ret
      exact ⟨retBool (by have := A.out; rw [List.take_of_length_le (by rw [HN.out]; omega)] at this; exact this.symm), BB.out⟩

set_option maxHeartbeats 1000000 in
theorem all70_67 (l : List Int) (v : Value) (w : World) (h : Lst w 1 isInt l v) (u z : Value) (f : Int → Bool)
    (C : ∀ W, Below w.heap.size w W → ∀ m ∈ l, In64 m → Calls Tryd.prog 67 #[.int .i64 m, u, z] W fun e w' => e = .returned (.bool (f m)) ∧ Below W.heap.size W w') :
    Calls Tryd.prog 70 #[v, .func (.func 67) #[] #[u, z]] w fun e w' => e = .returned (.bool (l.all f)) ∧ Below w.heap.size w w' := by
  have H := Hid.mk h
  have HC := Hid.mk C
  obtain ⟨ga, cap, rfl, hc, hx⟩ := h
  obtain ⟨n, hn⟩ : ∃ n, l.length = n := ⟨_, rfl⟩
  have HN := Hid.mk hn
  rw [hn] at hc ⊢
  have hc1 := hc.1
  have hc2 := hc.2
  clear hx hn C hc
  unfold maxLen at hc2
  go_enter Tryd.func70, Tryd.ntmps70
  go_wp2
  go_loopw [9] (fun c wr => ∃ i : Nat, c = .int .i64 i ∧ i ≤ n ∧ Hid ((l.take i).all f = true) ∧ Hid (Below w.heap.size w wr)) (fun c _ => n - (intOf c).toNat)
  case atStart => exact ⟨0, rfl, Nat.zero_le _, ⟨rfl⟩, ⟨Below.refl _ _⟩⟩
  case round =>
    obtain ⟨i, rfl, hi, A, BB⟩ := hrel
    by_cases hlt : i < n
    · have kl : i < l.length := by rw [HN.out]; exact hlt
      obtain ⟨g, off, cap', c, e, _, _, pc, hx⟩ := (H.out.later BB.out fun _ _ h => h : Lst wr 1 isInt l _).get i kl
      rw [HN.out] at e
      simp only [Value.slice.injEq] at e
      obtain ⟨rfl, _, rfl⟩ := e
      have hm := List.getElem_mem kl
      have HA : Hid ((l.take (i + 1)).all f = ((l.take i).all f && f (l[i]'kl))) := ⟨by rw [List.take_succ_eq_append_getElem kl, List.all_append]; simp only [List.all_cons, List.all_nil, Bool.and_true]⟩
      have HA2 : Hid (f (l[i]'kl) = false → l.all f = false) := ⟨fun q => by rw [List.all_eq_false]; exact ⟨_, hm, by rw [q]; simp⟩⟩
      have HM := Hid.mk hm
      clear hm
      generalize l[i]'kl = m at *
      obtain ⟨rfl, hI⟩ := pc
      have c0 : wr.cell? ⟨g, off + i, none⟩ = some (.int .i64 m) := by have := hx 0 _ rfl; simpa using this
      have CW := HC.out wr BB.out m HM.out hI
      have hlt' : (i : Int) < n := by omega
      clear hx
      rcases Bool.eq_false_or_eq_true (f m) with q | q
      · rw [q] at CW
        have HQ := Hid.mk q
        clear q
        go_wp2_with (go_at_call 67; refine CW.mono ?_; rintro e w' ⟨rfl, B⟩)
        exact ⟨⟨i + 1, by go_num, by omega, ⟨by rw [HA.out, A.out, HQ.out]; rfl⟩, ⟨belowOn BB.out B⟩⟩, by simp [intOf]; omega⟩
      · rw [q] at CW
        have HQ := Hid.mk q
        clear q
        go_wp2_with (go_at_call 67; refine CW.mono ?_; rintro e w' ⟨rfl, B⟩)
        go_ret
        exact ⟨retBool (HA2.out HQ.out).symm, belowOn BB.out B⟩
    · obtain rfl : i = n := by omega
      go_wp2
      go_ret
      exact ⟨retBool (by have := A.out; rw [List.take_of_length_le (by rw [HN.out]; omega)] at this; exact this.symm), BB.out⟩

set_option maxHeartbeats 1000000 in
theorem all70_71 (l : List Int) (v : Value) (w : World) (h : Lst w 1 isInt l v) (u : Value) (f : Int → Bool)
    (C : ∀ W, Below w.heap.size w W → ∀ m ∈ l, In64 m → Calls Tryd.prog 71 #[u, .int .i64 m] W fun e w' => e = .returned (.bool (f m)) ∧ Below W.heap.size W w') :
    Calls Tryd.prog 70 #[v, .func (.func 71) #[u] #[]] w fun e w' => e = .returned (.bool (l.all f)) ∧ Below w.heap.size w w' := by
  have H := Hid.mk h
  have HC := Hid.mk C
  obtain ⟨ga, cap, rfl, hc, hx⟩ := h
  obtain ⟨n, hn⟩ : ∃ n, l.length = n := ⟨_, rfl⟩
  have HN := Hid.mk hn
  rw [hn] at hc ⊢
  have hc1 := hc.1
  have hc2 := hc.2
  clear hx hn C hc
  unfold maxLen at hc2
  go_enter Tryd.func70, Tryd.ntmps70
  go_wp2
  go_loopw [9] (fun c wr => ∃ i : Nat, c = .int .i64 i ∧ i ≤ n ∧ Hid ((l.take i).all f = true) ∧ Hid (Below w.heap.size w wr)) (fun c _ => n - (intOf c).toNat)
  case atStart => exact ⟨0, rfl, Nat.zero_le _, ⟨rfl⟩, ⟨Below.refl _ _⟩⟩
  case round =>
    obtain ⟨i, rfl, hi, A, BB⟩ := hrel
    by_cases hlt : i < n
    · have kl : i < l.length := by rw [HN.out]; exact hlt
      obtain ⟨g, off, cap', c, e, _, _, pc, hx⟩ := (H.out.later BB.out fun _ _ h => h : Lst wr 1 isInt l _).get i kl
      rw [HN.out] at e
      simp only [Value.slice.injEq] at e
      obtain ⟨rfl, _, rfl⟩ := e
      have hm := List.getElem_mem kl
      have HA : Hid ((l.take (i + 1)).all f = ((l.take i).all f && f (l[i]'kl))) := ⟨by rw [List.take_succ_eq_append_getElem kl, List.all_append]; simp only [List.all_cons, List.all_nil, Bool.and_true]⟩
      have HA2 : Hid (f (l[i]'kl) = false → l.all f = false) := ⟨fun q => by rw [List.all_eq_false]; exact ⟨_, hm, by rw [q]; simp⟩⟩
      have HM := Hid.mk hm
      clear hm
      generalize l[i]'kl = m at *
      obtain ⟨rfl, hI⟩ := pc
      have c0 : wr.cell? ⟨g, off + i, none⟩ = some (.int .i64 m) := by have := hx 0 _ rfl; simpa using this
      have CW := HC.out wr BB.out m HM.out hI
      have hlt' : (i : Int) < n := by omega
      clear hx
      rcases Bool.eq_false_or_eq_true (f m) with q | q
      · rw [q] at CW
        have HQ := Hid.mk q
        clear q
        go_wp2_with (go_at_call 71; refine CW.mono ?_; rintro e w' ⟨rfl, B⟩)
        exact ⟨⟨i + 1, by go_num, by omega, ⟨by rw [HA.out, A.out, HQ.out]; rfl⟩, ⟨belowOn BB.out B⟩⟩, by simp [intOf]; omega⟩
      · rw [q] at CW
        have HQ := Hid.mk q
        clear q
        go_wp2_with (go_at_call 71; refine CW.mono ?_; rintro e w' ⟨rfl, B⟩)
        go_ret
        exact ⟨retBool (HA2.out HQ.out).symm, belowOn BB.out B⟩
    · obtain rfl : i = n := by omega
      go_wp2
      go_ret
      exact ⟨retBool (by have := A.out; rw [List.take_of_length_le (by rw [HN.out]; omega)] at this; exact this.symm), BB.out⟩

set_option maxHeartbeats 1000000 in
theorem all52_54 (l : List (Int × Int)) (v : Value) (w : World) (h : Lst w 2 isWay l v) (u : Value) (f : (Int × Int) → Bool)
    (C : ∀ W, Below w.heap.size w W → ∀ m ∈ l, Calls Tryd.prog 54 #[u, .agg #[.int .i64 m.1, .int .i64 m.2]] W fun e w' => e = .returned (.bool (f m)) ∧ Below W.heap.size W w') :
    Calls Tryd.prog 52 #[v, .func (.func 54) #[u] #[]] w fun e w' => e = .returned (.bool (l.all f)) ∧ Below w.heap.size w w' := by
  have H := Hid.mk h
  have HC := Hid.mk C
  obtain ⟨ga, cap, rfl, hc, hx⟩ := h
  obtain ⟨n, hn⟩ : ∃ n, l.length = n := ⟨_, rfl⟩
  have HN := Hid.mk hn
  rw [hn] at hc ⊢
  have hc1 := hc.1
  have hc2 := hc.2
  clear hx hn C hc
  unfold maxLen at hc2
  go_enter Tryd.func52, Tryd.ntmps52
  go_wp2
  go_loopw [9] (fun c wr => ∃ i : Nat, c = .int .i64 i ∧ i ≤ n ∧ Hid ((l.take i).all f = true) ∧ Hid (Below w.heap.size w wr)) (fun c _ => n - (intOf c).toNat)
  case atStart => exact ⟨0, rfl, Nat.zero_le _, ⟨rfl⟩, ⟨Below.refl _ _⟩⟩
  case round =>
    obtain ⟨i, rfl, hi, A, BB⟩ := hrel
    by_cases hlt : i < n
    · have kl : i < l.length := by rw [HN.out]; exact hlt
      obtain ⟨g, off, cap', c, e, _, _, pc, hx⟩ := (H.out.later BB.out fun _ _ h => h : Lst wr 2 isWay l _).get i kl
      rw [HN.out] at e
      simp only [Value.slice.injEq] at e
      obtain ⟨rfl, _, rfl⟩ := e
      have hm := List.getElem_mem kl
      have HA : Hid ((l.take (i + 1)).all f = ((l.take i).all f && f (l[i]'kl))) := ⟨by rw [List.take_succ_eq_append_getElem kl, List.all_append]; simp only [List.all_cons, List.all_nil, Bool.and_true]⟩
      have HA2 : Hid (f (l[i]'kl) = false → l.all f = false) := ⟨fun q => by rw [List.all_eq_false]; exact ⟨_, hm, by rw [q]; simp⟩⟩
      have HM := Hid.mk hm
      clear hm
      generalize l[i]'kl = m at *
      subst pc
      have c0 : wr.cell? ⟨g, off + i * 2, none⟩ = some (.int .i64 m.1) := hx 0 _ rfl
      have c1 : wr.cell? ⟨g, off + i * 2 + 1, none⟩ = some (.int .i64 m.2) := hx 1 _ rfl
      have CW := HC.out (wr.alloc (.cells #[.int .i64 m.1, .int .i64 m.2] 91)) (belowOn BB.out (by go_grown)) m HM.out 
      have hlt' : (i : Int) < n := by omega
      clear hx
      rcases Bool.eq_false_or_eq_true (f m) with q | q
      · rw [q] at CW
        have HQ := Hid.mk q
        clear q
        go_wp2_with (go_at_call 54; refine CW.mono ?_; rintro e w' ⟨rfl, B⟩)
        exact ⟨⟨i + 1, by go_num, by omega, ⟨by rw [HA.out, A.out, HQ.out]; rfl⟩, ⟨belowOn BB.out (belowOn (by go_grown) B)⟩⟩, by simp [intOf]; omega⟩
      · rw [q] at CW
        have HQ := Hid.mk q
        clear q
        go_wp2_with (go_at_call 54; refine CW.mono ?_; rintro e w' ⟨rfl, B⟩)
        go_ret
        exact ⟨retBool (HA2.out HQ.out).symm, belowOn BB.out (belowOn (by go_grown) B)⟩
    · obtain rfl : i = n := by omega
      go_wp2
      go_ret
      exact ⟨retBool (by have := A.out; rw [List.take_of_length_le (by rw [HN.out]; omega)] at this; exact this.symm), BB.out⟩

set_option maxHeartbeats 1000000 in
theorem all52_56 (l : List (Int × Int)) (v : Value) (w : World) (h : Lst w 2 isWay l v) (u : Value) (f : (Int × Int) → Bool)
    (C : ∀ W, Below w.heap.size w W → ∀ m ∈ l, Calls Tryd.prog 56 #[u, .agg #[.int .i64 m.1, .int .i64 m.2]] W fun e w' => e = .returned (.bool (f m)) ∧ Below W.heap.size W w') :
    Calls Tryd.prog 52 #[v, .func (.func 56) #[u] #[]] w fun e w' => e = .returned (.bool (l.all f)) ∧ Below w.heap.size w w' := by
  have H := Hid.mk h
  have HC := Hid.mk C
  obtain ⟨ga, cap, rfl, hc, hx⟩ := h
  obtain ⟨n, hn⟩ : ∃ n, l.length = n := ⟨_, rfl⟩
  have HN := Hid.mk hn
  rw [hn] at hc ⊢
  have hc1 := hc.1
  have hc2 := hc.2
  clear hx hn C hc
  unfold maxLen at hc2
  go_enter Tryd.func52, Tryd.ntmps52
  go_wp2
  go_loopw [9] (fun c wr => ∃ i : Nat, c = .int .i64 i ∧ i ≤ n ∧ Hid ((l.take i).all f = true) ∧ Hid (Below w.heap.size w wr)) (fun c _ => n - (intOf c).toNat)
  case atStart => exact ⟨0, rfl, Nat.zero_le _, ⟨rfl⟩, ⟨Below.refl _ _⟩⟩
  case round =>
    obtain ⟨i, rfl, hi, A, BB⟩ := hrel
    by_cases hlt : i < n
    · have kl : i < l.length := by rw [HN.out]; exact hlt
      obtain ⟨g, off, cap', c, e, _, _, pc, hx⟩ := (H.out.later BB.out fun _ _ h => h : Lst wr 2 isWay l _).get i kl
      rw [HN.out] at e
      simp only [Value.slice.injEq] at e
      obtain ⟨rfl, _, rfl⟩ := e
      have hm := List.getElem_mem kl
      have HA : Hid ((l.take (i + 1)).all f = ((l.take i).all f && f (l[i]'kl))) := ⟨by rw [List.take_succ_eq_append_getElem kl, List.all_append]; simp only [List.all_cons, List.all_nil, Bool.and_true]⟩
      have HA2 : Hid (f (l[i]'kl) = false → l.all f = false) := ⟨fun q => by rw [List.all_eq_false]; exact ⟨_, hm, by rw [q]; simp⟩⟩
      have HM := Hid.mk hm
      clear hm
      generalize l[i]'kl = m at *
      subst pc
      have c0 : wr.cell? ⟨g, off + i * 2, none⟩ = some (.int .i64 m.1) := hx 0 _ rfl
      have c1 : wr.cell? ⟨g, off + i * 2 + 1, none⟩ = some (.int .i64 m.2) := hx 1 _ rfl
      have CW := HC.out (wr.alloc (.cells #[.int .i64 m.1, .int .i64 m.2] 91)) (belowOn BB.out (by go_grown)) m HM.out 
      have hlt' : (i : Int) < n := by omega
      clear hx
      rcases Bool.eq_false_or_eq_true (f m) with q | q
      · rw [q] at CW
        have HQ := Hid.mk q
        clear q
        go_wp2_with (go_at_call 56; refine CW.mono ?_; rintro e w' ⟨rfl, B⟩)
        exact ⟨⟨i + 1, by go_num, by omega, ⟨by rw [HA.out, A.out, HQ.out]; rfl⟩, ⟨belowOn BB.out (belowOn (by go_grown) B)⟩⟩, by simp [intOf]; omega⟩
      · rw [q] at CW
        have HQ := Hid.mk q
        clear q
        go_wp2_with (go_at_call 56; refine CW.mono ?_; rintro e w' ⟨rfl, B⟩)
        go_ret
        exact ⟨retBool (HA2.out HQ.out).symm, belowOn BB.out (belowOn (by go_grown) B)⟩
    · obtain rfl : i = n := by omega
      go_wp2
      go_ret
      exact ⟨retBool (by have := A.out; rw [List.take_of_length_le (by rw [HN.out]; omega)] at this; exact this.symm), BB.out⟩
end Go.Proofs.YtidplckoolmaiaaDoor
