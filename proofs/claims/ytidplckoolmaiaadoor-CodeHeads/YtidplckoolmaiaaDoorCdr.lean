/- A code is the same as itself: what the first call of each statement asks. -/
import Derived.Test.YtidplckoolmaiaaDoorCdo
namespace Go.Proofs.YtidplckoolmaiaaDoor
open Go.RowKit
set_option linter.unusedVariables false
set_option linter.unusedSimpArgs false

set_option maxRecDepth 100000 in
set_option maxHeartbeats 2000000 in
theorem eqf28 (l : List Inf) (v : Value) (w : World) (h : Lst w 4 isInf l v)
    (C : ∀ W, Below w.heap.size w W → ∀ m ∈ l, Calls Tryd.prog 29 #[.agg #[.int .i64 m.k, .int .i64 m.a, .int .i64 m.f, .int .i64 m.t], .agg #[.int .i64 m.k, .int .i64 m.a, .int .i64 m.f, .int .i64 m.t]] W fun e w' => e = .returned (.bool true) ∧ Below W.heap.size W w') :
    Calls Tryd.prog 28 #[v, v, .func (.func 29) #[] #[]] w fun e w' => e = .returned (.bool true) ∧ Below w.heap.size w w' := by
  have H := Hid.mk h
  have HC := Hid.mk C
  obtain ⟨ga, cap, rfl, hc, hx⟩ := h
  obtain ⟨n, hn⟩ : ∃ n, l.length = n := ⟨_, rfl⟩
  have HN := Hid.mk hn
  rw [hn] at hc ⊢
  have hc1 := hc.1
  have hc2 := hc.2
  clear hx hn C hc
  unfold maxLen at hc2
  go_enter Tryd.func28, Tryd.ntmps28
  go_wp2
  go_loopw [17] (fun c wr => ∃ i : Nat, c = .int .i64 i ∧ i ≤ n ∧ Hid (Below w.heap.size w wr)) (fun c _ => n - (intOf c).toNat)
  case atStart => exact ⟨0, rfl, Nat.zero_le _, ⟨Below.refl _ _⟩⟩
  case round =>
    obtain ⟨i, rfl, hi, BB⟩ := hrel
    by_cases hlt : i < n
    · have kl : i < l.length := by rw [HN.out]; exact hlt
      obtain ⟨g, off, cap', c, e, _, _, pc, hx⟩ := (H.out.later BB.out fun _ _ h => h : Lst wr 4 isInf l _).get i kl
      rw [HN.out] at e
      simp only [Value.slice.injEq] at e
      obtain ⟨rfl, _, rfl⟩ := e
      have HM := Hid.mk (List.getElem_mem kl)
      generalize l[i]'kl = m at *
      unfold isInf at pc
      subst pc
      have c0 : wr.cell? ⟨g, off + i * 4, none⟩ = some (.int .i64 m.k) := hx 0 _ rfl
      have c1 : wr.cell? ⟨g, off + i * 4 + 1, none⟩ = some (.int .i64 m.a) := hx 1 _ rfl
      have c2 : wr.cell? ⟨g, off + i * 4 + 2, none⟩ = some (.int .i64 m.f) := hx 2 _ rfl
      have c3 : wr.cell? ⟨g, off + i * 4 + 3, none⟩ = some (.int .i64 m.t) := hx 3 _ rfl
      have d0 : (wr.alloc (.cells #[.int .i64 m.k, .int .i64 m.a, .int .i64 m.f, .int .i64 m.t] 48)).cell? ⟨g, off + i * 4, none⟩ = some (.int .i64 m.k) := cellLater (by go_grown) c0
      have d1 : (wr.alloc (.cells #[.int .i64 m.k, .int .i64 m.a, .int .i64 m.f, .int .i64 m.t] 48)).cell? ⟨g, off + i * 4 + 1, none⟩ = some (.int .i64 m.a) := cellLater (by go_grown) c1
      have d2 : (wr.alloc (.cells #[.int .i64 m.k, .int .i64 m.a, .int .i64 m.f, .int .i64 m.t] 48)).cell? ⟨g, off + i * 4 + 2, none⟩ = some (.int .i64 m.f) := cellLater (by go_grown) c2
      have d3 : (wr.alloc (.cells #[.int .i64 m.k, .int .i64 m.a, .int .i64 m.f, .int .i64 m.t] 48)).cell? ⟨g, off + i * 4 + 3, none⟩ = some (.int .i64 m.t) := cellLater (by go_grown) c3
      have CW := HC.out ((wr.alloc (.cells #[.int .i64 m.k, .int .i64 m.a, .int .i64 m.f, .int .i64 m.t] 48)).alloc (.cells #[.int .i64 m.k, .int .i64 m.a, .int .i64 m.f, .int .i64 m.t] 48)) (belowOn BB.out (by go_grown)) m HM.out 
      have hlt' : (i : Int) < n := by omega
      clear hx
      go_wp2_with (go_at_call 29; refine CW.mono ?_; rintro e w' ⟨rfl, B⟩)
      exact ⟨⟨i + 1, by go_num, by omega, ⟨belowOn BB.out (belowOn (by go_grown) B)⟩⟩, by simp [intOf]; omega⟩
    · obtain rfl : i = n := by omega
      go_wp2
      go_ret
      exact ⟨rfl, BB.out⟩
set_option maxRecDepth 100000 in
set_option maxHeartbeats 2000000 in
theorem eqf39 (l : List Mk) (v : Value) (w : World) (h : Lst w 4 (isMk w) l v)
    (C : ∀ W, Below w.heap.size w W → ∀ m ∈ l, ∀ vf, Lst W 1 isInt m.fr vf → Calls Tryd.prog 40 #[.agg #[.int .i64 m.k, .int .i64 m.i, .int .i64 m.n, vf], .agg #[.int .i64 m.k, .int .i64 m.i, .int .i64 m.n, vf]] W fun e w' => e = .returned (.bool true) ∧ Below W.heap.size W w') :
    Calls Tryd.prog 39 #[v, v, .func (.func 40) #[] #[]] w fun e w' => e = .returned (.bool true) ∧ Below w.heap.size w w' := by
  have H := Hid.mk h
  have HC := Hid.mk C
  obtain ⟨ga, cap, rfl, hc, hx⟩ := h
  obtain ⟨n, hn⟩ : ∃ n, l.length = n := ⟨_, rfl⟩
  have HN := Hid.mk hn
  rw [hn] at hc ⊢
  have hc1 := hc.1
  have hc2 := hc.2
  clear hx hn C hc
  unfold maxLen at hc2
  go_enter Tryd.func39, Tryd.ntmps39
  go_wp2
  go_loopw [17] (fun c wr => ∃ i : Nat, c = .int .i64 i ∧ i ≤ n ∧ Hid (Below w.heap.size w wr)) (fun c _ => n - (intOf c).toNat)
  case atStart => exact ⟨0, rfl, Nat.zero_le _, ⟨Below.refl _ _⟩⟩
  case round =>
    obtain ⟨i, rfl, hi, BB⟩ := hrel
    by_cases hlt : i < n
    · have kl : i < l.length := by rw [HN.out]; exact hlt
      obtain ⟨g, off, cap', c, e, _, _, pc, hx⟩ := (H.out.later BB.out fun _ _ h => isMk_later BB.out h : Lst wr 4 (isMk wr) l _).get i kl
      rw [HN.out] at e
      simp only [Value.slice.injEq] at e
      obtain ⟨rfl, _, rfl⟩ := e
      have HM := Hid.mk (List.getElem_mem kl)
      generalize l[i]'kl = m at *
      obtain ⟨vf, rfl, hf⟩ := pc
      have HF := Hid.mk hf
      obtain ⟨gf, cf, rfl, _⟩ := hf
      have c0 : wr.cell? ⟨g, off + i * 4, none⟩ = some (.int .i64 m.k) := hx 0 _ rfl
      have c1 : wr.cell? ⟨g, off + i * 4 + 1, none⟩ = some (.int .i64 m.i) := hx 1 _ rfl
      have c2 : wr.cell? ⟨g, off + i * 4 + 2, none⟩ = some (.int .i64 m.n) := hx 2 _ rfl
      have c3 : wr.cell? ⟨g, off + i * 4 + 3, none⟩ = some (.slice gf m.fr.length cf) := hx 3 _ rfl
      have d0 : (wr.alloc (.cells #[.int .i64 m.k, .int .i64 m.i, .int .i64 m.n, .slice gf m.fr.length cf] 30)).cell? ⟨g, off + i * 4, none⟩ = some (.int .i64 m.k) := cellLater (by go_grown) c0
      have d1 : (wr.alloc (.cells #[.int .i64 m.k, .int .i64 m.i, .int .i64 m.n, .slice gf m.fr.length cf] 30)).cell? ⟨g, off + i * 4 + 1, none⟩ = some (.int .i64 m.i) := cellLater (by go_grown) c1
      have d2 : (wr.alloc (.cells #[.int .i64 m.k, .int .i64 m.i, .int .i64 m.n, .slice gf m.fr.length cf] 30)).cell? ⟨g, off + i * 4 + 2, none⟩ = some (.int .i64 m.n) := cellLater (by go_grown) c2
      have d3 : (wr.alloc (.cells #[.int .i64 m.k, .int .i64 m.i, .int .i64 m.n, .slice gf m.fr.length cf] 30)).cell? ⟨g, off + i * 4 + 3, none⟩ = some (.slice gf m.fr.length cf) := cellLater (by go_grown) c3
      have CW := HC.out ((wr.alloc (.cells #[.int .i64 m.k, .int .i64 m.i, .int .i64 m.n, .slice gf m.fr.length cf] 30)).alloc (.cells #[.int .i64 m.k, .int .i64 m.i, .int .i64 m.n, .slice gf m.fr.length cf] 30)) (belowOn BB.out (by go_grown)) m HM.out _ (HF.out.later (by go_grown) fun _ _ h => h)
      have hlt' : (i : Int) < n := by omega
      clear hx
      go_wp2_with (go_at_call 40; refine CW.mono ?_; rintro e w' ⟨rfl, B⟩)
      exact ⟨⟨i + 1, by go_num, by omega, ⟨belowOn BB.out (belowOn (by go_grown) B)⟩⟩, by simp [intOf]; omega⟩
    · obtain rfl : i = n := by omega
      go_wp2
      go_ret
      exact ⟨rfl, BB.out⟩
set_option maxRecDepth 100000 in
set_option maxHeartbeats 2000000 in
theorem eqf31 (l : List Ins) (v : Value) (w : World) (h : Lst w 7 (isIns w) l v)
    (C : ∀ W, Below w.heap.size w W → ∀ m ∈ l, ∀ vl vk vm va, Iv W m vl vk vm va → Calls Tryd.prog 32 #[.agg #[.int .i64 m.op, .int .i64 m.a, .int .i64 m.b, vl, vk, vm, va], .agg #[.int .i64 m.op, .int .i64 m.a, .int .i64 m.b, vl, vk, vm, va]] W fun e w' => e = .returned (.bool true) ∧ Below W.heap.size W w') :
    Calls Tryd.prog 31 #[v, v, .func (.func 32) #[] #[]] w fun e w' => e = .returned (.bool true) ∧ Below w.heap.size w w' := by
  have H := Hid.mk h
  have HC := Hid.mk C
  obtain ⟨ga, cap, rfl, hc, hx⟩ := h
  obtain ⟨n, hn⟩ : ∃ n, l.length = n := ⟨_, rfl⟩
  have HN := Hid.mk hn
  rw [hn] at hc ⊢
  have hc1 := hc.1
  have hc2 := hc.2
  clear hx hn C hc
  unfold maxLen at hc2
  go_enter Tryd.func31, Tryd.ntmps31
  go_wp2
  go_loopw [17] (fun c wr => ∃ i : Nat, c = .int .i64 i ∧ i ≤ n ∧ Hid (Below w.heap.size w wr)) (fun c _ => n - (intOf c).toNat)
  case atStart => exact ⟨0, rfl, Nat.zero_le _, ⟨Below.refl _ _⟩⟩
  case round =>
    obtain ⟨i, rfl, hi, BB⟩ := hrel
    by_cases hlt : i < n
    · have kl : i < l.length := by rw [HN.out]; exact hlt
      obtain ⟨g, off, cap', c, e, _, _, pc, hx⟩ := (H.out.later BB.out fun _ _ h => isIns_later BB.out h : Lst wr 7 (isIns wr) l _).get i kl
      rw [HN.out] at e
      simp only [Value.slice.injEq] at e
      obtain ⟨rfl, _, rfl⟩ := e
      have HM := Hid.mk (List.getElem_mem kl)
      generalize l[i]'kl = m at *
      obtain ⟨vl, vk, vm, va, rfl, I1, I2, I3, I4⟩ := pc
      have HF := Hid.mk (Iv.mk I1 I2 I3 I4)
      obtain ⟨gl, cl, rfl, _⟩ := I1
      obtain ⟨gk, ck, rfl, _⟩ := I2
      obtain ⟨gm, cm, rfl, _⟩ := I3
      obtain ⟨gr, cr, rfl, _⟩ := I4
      have c0 : wr.cell? ⟨g, off + i * 7, none⟩ = some (.int .i64 m.op) := hx 0 _ rfl
      have c1 : wr.cell? ⟨g, off + i * 7 + 1, none⟩ = some (.int .i64 m.a) := hx 1 _ rfl
      have c2 : wr.cell? ⟨g, off + i * 7 + 2, none⟩ = some (.int .i64 m.b) := hx 2 _ rfl
      have c3 : wr.cell? ⟨g, off + i * 7 + 3, none⟩ = some (.slice gl m.li.length cl) := hx 3 _ rfl
      have c4 : wr.cell? ⟨g, off + i * 7 + 4, none⟩ = some (.slice gk m.ke.length ck) := hx 4 _ rfl
      have c5 : wr.cell? ⟨g, off + i * 7 + 5, none⟩ = some (.slice gm m.ms.length cm) := hx 5 _ rfl
      have c6 : wr.cell? ⟨g, off + i * 7 + 6, none⟩ = some (.slice gr m.ar.length cr) := hx 6 _ rfl
      have d0 : (wr.alloc (.cells #[.int .i64 m.op, .int .i64 m.a, .int .i64 m.b, .slice gl m.li.length cl, .slice gk m.ke.length ck, .slice gm m.ms.length cm, .slice gr m.ar.length cr] 42)).cell? ⟨g, off + i * 7, none⟩ = some (.int .i64 m.op) := cellLater (by go_grown) c0
      have d1 : (wr.alloc (.cells #[.int .i64 m.op, .int .i64 m.a, .int .i64 m.b, .slice gl m.li.length cl, .slice gk m.ke.length ck, .slice gm m.ms.length cm, .slice gr m.ar.length cr] 42)).cell? ⟨g, off + i * 7 + 1, none⟩ = some (.int .i64 m.a) := cellLater (by go_grown) c1
      have d2 : (wr.alloc (.cells #[.int .i64 m.op, .int .i64 m.a, .int .i64 m.b, .slice gl m.li.length cl, .slice gk m.ke.length ck, .slice gm m.ms.length cm, .slice gr m.ar.length cr] 42)).cell? ⟨g, off + i * 7 + 2, none⟩ = some (.int .i64 m.b) := cellLater (by go_grown) c2
      have d3 : (wr.alloc (.cells #[.int .i64 m.op, .int .i64 m.a, .int .i64 m.b, .slice gl m.li.length cl, .slice gk m.ke.length ck, .slice gm m.ms.length cm, .slice gr m.ar.length cr] 42)).cell? ⟨g, off + i * 7 + 3, none⟩ = some (.slice gl m.li.length cl) := cellLater (by go_grown) c3
      have d4 : (wr.alloc (.cells #[.int .i64 m.op, .int .i64 m.a, .int .i64 m.b, .slice gl m.li.length cl, .slice gk m.ke.length ck, .slice gm m.ms.length cm, .slice gr m.ar.length cr] 42)).cell? ⟨g, off + i * 7 + 4, none⟩ = some (.slice gk m.ke.length ck) := cellLater (by go_grown) c4
      have d5 : (wr.alloc (.cells #[.int .i64 m.op, .int .i64 m.a, .int .i64 m.b, .slice gl m.li.length cl, .slice gk m.ke.length ck, .slice gm m.ms.length cm, .slice gr m.ar.length cr] 42)).cell? ⟨g, off + i * 7 + 5, none⟩ = some (.slice gm m.ms.length cm) := cellLater (by go_grown) c5
      have d6 : (wr.alloc (.cells #[.int .i64 m.op, .int .i64 m.a, .int .i64 m.b, .slice gl m.li.length cl, .slice gk m.ke.length ck, .slice gm m.ms.length cm, .slice gr m.ar.length cr] 42)).cell? ⟨g, off + i * 7 + 6, none⟩ = some (.slice gr m.ar.length cr) := cellLater (by go_grown) c6
      have CW := HC.out ((wr.alloc (.cells #[.int .i64 m.op, .int .i64 m.a, .int .i64 m.b, .slice gl m.li.length cl, .slice gk m.ke.length ck, .slice gm m.ms.length cm, .slice gr m.ar.length cr] 42)).alloc (.cells #[.int .i64 m.op, .int .i64 m.a, .int .i64 m.b, .slice gl m.li.length cl, .slice gk m.ke.length ck, .slice gm m.ms.length cm, .slice gr m.ar.length cr] 42)) (belowOn BB.out (by go_grown)) m HM.out _ _ _ _ (HF.out.later (by go_grown))
      have hlt' : (i : Int) < n := by omega
      clear hx
      go_wp2_with (go_at_call 32; refine CW.mono ?_; rintro e w' ⟨rfl, B⟩)
      exact ⟨⟨i + 1, by go_num, by omega, ⟨belowOn BB.out (belowOn (by go_grown) B)⟩⟩, by simp [intOf]; omega⟩
    · obtain rfl : i = n := by omega
      go_wp2
      go_ret
      exact ⟨rfl, BB.out⟩
set_option maxHeartbeats 1000000 in
theorem eq27 (w : World) : Calls Tryd.prog 27 #[.slice none 0 0, .slice none 0 0] w fun e w' => e = .returned (.bool true) ∧ w' = w := by
  go_enter Tryd.func27, Tryd.ntmps27
  go_wp2
  go_loop [13] (fun c => c = .int .i64 0) (fun _ => 0)
  case atStart => rfl
  case round =>
    subst hrel
    go_wp2
    go_ret
    exact ⟨rfl, rfl⟩
set_option maxHeartbeats 1000000 in
theorem eq30 (w : World) : Calls Tryd.prog 30 #[.slice none 0 0, .slice none 0 0] w fun e w' => e = .returned (.bool true) ∧ w' = w := by
  go_enter Tryd.func30, Tryd.ntmps30
  go_wp2
  go_loop [13] (fun c => c = .int .i64 0) (fun _ => 0)
  case atStart => rfl
  case round =>
    subst hrel
    go_wp2
    go_ret
    exact ⟨rfl, rfl⟩
theorem sameInfo_6 (a f t : Int) (w : World) : Calls Tryd.prog 29 #[.agg #[.int .i64 6, .int .i64 a, .int .i64 f, .int .i64 t], .agg #[.int .i64 6, .int .i64 a, .int .i64 f, .int .i64 t]] w fun e w' => e = .returned (.bool true) ∧ Below w.heap.size w w' := by
  go_enter Tryd.func29, Tryd.ntmps29
  go_wp2
  go_ret
  exact ⟨retBool (by simp), by go_grown⟩
theorem sameMake_2 (i n : Int) (fr : List Int) (gf : Option Addr) (cf : Nat) (w : World) : Calls Tryd.prog 40 #[.agg #[.int .i64 2, .int .i64 i, .int .i64 n, .slice gf fr.length cf], .agg #[.int .i64 2, .int .i64 i, .int .i64 n, .slice gf fr.length cf]] w fun e w' => e = .returned (.bool true) ∧ Below w.heap.size w w' := by
  go_enter Tryd.func40, Tryd.ntmps40
  go_wp2
  go_ret
  exact ⟨retBool (by simp), by go_grown⟩
set_option maxHeartbeats 1000000 in
theorem sameInsn_3 (m : Ins) (ho : m.op = 3) (vl vk vm va : Value) (w : World) (I : Iv w m vl vk vm va) : Calls Tryd.prog 32 #[.agg #[.int .i64 m.op, .int .i64 m.a, .int .i64 m.b, vl, vk, vm, va], .agg #[.int .i64 m.op, .int .i64 m.a, .int .i64 m.b, vl, vk, vm, va]] w fun e w' => e = .returned (.bool true) ∧ Below w.heap.size w w' := by
  obtain ⟨⟨gl, cl, rfl, _⟩, ⟨gk, ck, rfl, _⟩, ⟨gm, cm, rfl, _⟩, ⟨ga, ca, rfl, _⟩⟩ := I
  rw [ho]
  go_enter Tryd.func32, Tryd.ntmps32
  go_wp2
  go_ret
  exact ⟨retBool (by simp), by go_grown⟩
set_option maxHeartbeats 1000000 in
theorem sameInsn_1 (m : Ins) (ho : m.op = 1) (hm : ∀ k ∈ m.ms, k.k = 2) (vl vk vm va : Value) (w : World) (I : Iv w m vl vk vm va) : Calls Tryd.prog 32 #[.agg #[.int .i64 m.op, .int .i64 m.a, .int .i64 m.b, vl, vk, vm, va], .agg #[.int .i64 m.op, .int .i64 m.a, .int .i64 m.b, vl, vk, vm, va]] w fun e w' => e = .returned (.bool true) ∧ Below w.heap.size w w' := by
  have HI := Hid.mk I
  obtain ⟨⟨gl, cl, rfl, _⟩, ⟨gk, ck, rfl, _⟩, ⟨gm, cm, rfl, _⟩, ⟨ga, ca, rfl, _⟩⟩ := I
  have C := eqf39 m.ms _ ((w.alloc (.cells #[.int .i64 1, .int .i64 m.a, .int .i64 m.b, .slice gl m.li.length cl, .slice gk m.ke.length ck, .slice gm m.ms.length cm, .slice ga m.ar.length ca] 42)).alloc (.cells #[.int .i64 1, .int .i64 m.a, .int .i64 m.b, .slice gl m.li.length cl, .slice gk m.ke.length ck, .slice gm m.ms.length cm, .slice ga m.ar.length ca] 42)) (HI.out.later (by go_grown)).ms (fun W hW k hk vf hf => by
    obtain ⟨gf, cf, rfl, _⟩ := hf
    rw [hm k hk]
    exact sameMake_2 _ _ _ _ _ _)
  rw [ho]
  clear HI hm ho
  go_enter Tryd.func32, Tryd.ntmps32
  go_wp2_with (go_at_call 39; refine C.mono ?_; rintro e w' ⟨rfl, B⟩)
  go_ret
  exact ⟨rfl, belowOn (by go_grown) B⟩
/-- a code that the first call asks about: a thunk, and instructions of two kinds -/
structure Sq (c : Cd) : Prop where
  inf : ∀ f ∈ c.inf, f.k = 6
  ins : ∀ x ∈ c.ins, (x.op = 1 ∧ ∀ k ∈ x.ms, k.k = 2) ∨ x.op = 3
set_option maxHeartbeats 1000000 in
theorem same_any {w : World} {c : Cd} {vi vn : Value} (V : Cv w c (.slice none 0 0) (.slice none 0 0) vi vn) (S : Sq c) : Calls Tryd.prog 14 #[.agg #[.slice none 0 0, .slice none 0 0, vi, vn], .agg #[.slice none 0 0, .slice none 0 0, vi, vn]] w fun e w' => e = .returned (.bool true) ∧ Below w.heap.size w w' := by
  have HV := Hid.mk V
  obtain ⟨_, _, ⟨gi, ci, rfl, _⟩, ⟨gn, cn, rfl, _⟩⟩ := V
  obtain ⟨W1, hW1⟩ : ∃ W1, W1 = (w.alloc (.cells #[.slice none 0 0, .slice none 0 0, .slice gi c.inf.length ci, .slice gn c.ins.length cn] 27)).alloc (.cells #[.slice none 0 0, .slice none 0 0, .slice gi c.inf.length ci, .slice gn c.ins.length cn] 27) := ⟨_, rfl⟩
  have B1 : Below w.heap.size w W1 := by subst hW1; go_grown
  have V1 := HV.out.later B1
  have C28 := eqf28 c.inf _ W1 V1.inf (fun W hW m hm => by rw [S.inf m hm]; exact sameInfo_6 _ _ _ _)
  have C31 : ∀ W, Below W1.heap.size W1 W → Calls Tryd.prog 31 #[.slice gn c.ins.length cn, .slice gn c.ins.length cn, .func (.func 32) #[] #[]] W fun e w' => e = .returned (.bool true) ∧ Below W.heap.size W w' := fun W hW => eqf31 c.ins _ W (V1.later hW).ins (fun W' hW' m hm vl vk vm va I => by
    rcases S.ins m hm with ⟨h, k⟩ | h
    · exact sameInsn_1 m h k vl vk vm va W' I
    · exact sameInsn_3 m h vl vk vm va W' I)
  have q0 : W1.cell? ⟨w.heap.size, 3, none⟩ = some (.slice gn c.ins.length cn) := by subst hW1; exact cellLater (w := w.alloc _) (by go_grown) (cellNew _ _ _ _ _ rfl)
  have q1 : W1.cell? ⟨w.heap.size + 1, 3, none⟩ = some (.slice gn c.ins.length cn) := by subst hW1; have := cellNew (w.alloc (.cells #[.slice none 0 0, .slice none 0 0, .slice gi c.inf.length ci, .slice gn c.ins.length cn] 27)) #[.slice none 0 0, .slice none 0 0, .slice gi c.inf.length ci, .slice gn c.ins.length cn] 27 3 _ rfl; rw [World.size_alloc] at this; exact this
  have q2 : W1.cell? ⟨w.heap.size, 1, none⟩ = some (.slice none 0 0) := by subst hW1; exact cellLater (w := w.alloc _) (by go_grown) (cellNew _ _ _ _ _ rfl)
  have q3 : W1.cell? ⟨w.heap.size + 1, 1, none⟩ = some (.slice none 0 0) := by subst hW1; have := cellNew (w.alloc (.cells #[.slice none 0 0, .slice none 0 0, .slice gi c.inf.length ci, .slice gn c.ins.length cn] 27)) #[.slice none 0 0, .slice none 0 0, .slice gi c.inf.length ci, .slice gn c.ins.length cn] 27 1 _ rfl; rw [World.size_alloc] at this; exact this
  have HB1 := Hid.mk B1
  clear V1 HV S B1
  subst hW1
  go_enter Tryd.func14, Tryd.ntmps14
  go_wp2_with (first
    | (go_at_call 27; refine (eq27 _).mono ?_; rintro e w' ⟨rfl, rfl⟩)
    | (go_at_call 30; refine (eq30 _).mono ?_; rintro e w' ⟨rfl, rfl⟩)
    | (go_at_call 28; refine C28.mono ?_; rintro e w3 ⟨rfl, B3⟩; have p0 := cellLater B3 q0; have p1 := cellLater B3 q1; have p2 := cellLater B3 q2; have p3 := cellLater B3 q3; have HB3 := Hid.mk B3; clear B3)
    | (go_at_call 31; refine (C31 _ HB3.out).mono ?_; rintro e w4 ⟨rfl, B4⟩))
  go_ret
  exact ⟨rfl, belowOn HB1.out (belowOn HB3.out B4)⟩
end Go.Proofs.YtidplckoolmaiaaDoor
