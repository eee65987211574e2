/- Check whole. -/
import Derived.Test.YtidplckoolmaiaaDoorCdn
namespace Go.Proofs.YtidplckoolmaiaaDoor
open Go.RowKit
set_option linter.unusedVariables false
set_option linter.unusedSimpArgs false

/-- a code that is right -/
def Good (c : Cd) : Prop := (∀ a ∈ c.co, wrongCon a = 0) ∧ (∀ f ∈ c.inf, wrongInf c f = 0) ∧ (∀ g ∈ c.gl, wrongGlo c g = 0) ∧ ∀ (i : Nat) x, c.ins[i]? = some x → wrongI c i x = 0
def Bad (c : Cd) (z e : Int) : Prop := (∃ (i : Nat) (a : Int), c.co[i]? = some a ∧ z = i ∧ e = wrongCon a) ∨ (∃ (i : Nat) (f : Inf), c.inf[i]? = some f ∧ z = i ∧ e = wrongInf c f) ∨ (∃ (i : Nat) (g : Int), c.gl[i]? = some g ∧ z = i ∧ e = wrongGlo c g) ∨ ∃ (i : Nat) (x : Ins), c.ins[i]? = some x ∧ z = i ∧ e = wrongI c i x
def Chk (c : Cd) (z e : Int) : Prop := (Good c ∧ z = 0 ∧ e = 0) ∨ (¬ e = 0 ∧ Bad c z e)
theorem Chk.good {c : Cd} {z : Int} (h : Chk c z 0) : Good c := by
  rcases h with h | h
  · exact h.1
  · exact absurd rfl h.1
theorem Bad.not {c : Cd} {z e : Int} (h : Bad c z e) (he : ¬ e = 0) : ¬ Good c := by
  intro G
  rcases h with ⟨i, a, h, _, q⟩ | ⟨i, a, h, _, q⟩ | ⟨i, a, h, _, q⟩ | ⟨i, a, h, _, q⟩
  · exact he (q.trans (G.1 a (List.mem_of_getElem? h)))
  · exact he (q.trans (G.2.1 a (List.mem_of_getElem? h)))
  · exact he (q.trans (G.2.2.1 a (List.mem_of_getElem? h)))
  · exact he (q.trans (G.2.2.2 i a h))
theorem Chk.ok {c : Cd} {z e : Int} (h : Chk c z e) (G : Good c) : z = 0 ∧ e = 0 := by
  rcases h with h | h
  · exact h.2
  · exact absurd G (h.2.not h.1)
theorem wrongCon_z {a : Int} (h : wrongCon a = 0) : 0 ≤ a ∧ a ≤ 8 := by
  unfold wrongCon at h
  split at h
  · cases h
  · omega
section
variable {w : World} {c : Cd} {vc vg vi vn : Value}
set_option maxRecDepth 100000 in
set_option maxHeartbeats 4000000 in
theorem check_any (T : Table w) (V : Cv w c vc vg vi vn) (S : Sc c) : Calls Tryd.prog 10 #[.agg #[vc, vg, vi, vn]] w fun e w' => ∃ z r, e = .returned (.tuple #[.int .i64 z, .int .i64 r]) ∧ Chk c z r ∧ Below w.heap.size w w' := by
  have HV0 := Hid.mk V
  obtain ⟨⟨gc, cc, rfl, _⟩, ⟨gg, cg, rfl, _⟩, ⟨gi, ci, rfl, _⟩, ⟨gn, cn, rfl, _⟩⟩ := V
  obtain ⟨W0, hW0⟩ : ∃ W0, W0 = w.alloc (.cells #[.slice gc c.co.length cc, .slice gg c.gl.length cg, .slice gi c.inf.length ci, .slice gn c.ins.length cn] 27) := ⟨_, rfl⟩
  obtain ⟨W1, hW1⟩ : ∃ W1, W1 = W0.alloc (.cells #[.int .i64 c.co.length, .func (.func 19) #[] #[ptr w.heap.size], .int .i64 c.inf.length, .func (.func 21) #[] #[ptr w.heap.size], .int .i64 c.gl.length, .func (.func 23) #[] #[ptr w.heap.size], .int .i64 c.ins.length, .func (.func 25) #[] #[ptr w.heap.size]] 63) := ⟨_, rfl⟩
  have B0 : Below w.heap.size w W1 := by subst hW1 hW0; go_grown
  have HB0 := Hid.mk B0
  have HT := Hid.mk (T.later B0)
  have HV := Hid.mk (HV0.out.later B0)
  have HS := Hid.mk S
  have sz : W0.heap.size = w.heap.size + 1 := by subst hW0; simp
  have kq : ∀ o u, #[.slice gc c.co.length cc, .slice gg c.gl.length cg, .slice gi c.inf.length ci, .slice gn c.ins.length cn][o]? = some u → W1.cell? ⟨w.heap.size, o, none⟩ = some u := fun o u h => by
    refine cellLater (w := W0) (by subst hW1; go_grown) ?_
    subst hW0
    exact cellNew _ _ _ _ _ h
  have HQ := Hid.mk (Cq.mk (kq 0 _ rfl) (kq 1 _ rfl) (kq 2 _ rfl) (kq 3 _ rfl))
  have HP : Hid (∀ o u, #[.int .i64 c.co.length, .func (.func 19) #[] #[ptr w.heap.size], .int .i64 c.inf.length, .func (.func 21) #[] #[ptr w.heap.size], .int .i64 c.gl.length, .func (.func 23) #[] #[ptr w.heap.size], .int .i64 c.ins.length, .func (.func 25) #[] #[ptr w.heap.size]][o]? = some u → W1.cell? ⟨w.heap.size + 1, o, none⟩ = some u) := ⟨fun o u h => by rw [← sz, hW1]; exact cellNew _ _ _ _ _ h⟩
  clear T S kq B0 sz HV0
  go_enter Tryd.func10, Tryd.ntmps10
  go_wp2
  rw [← hW0, ← hW1]
  clear hW0 hW1
  go_loopw [32] (fun cc wr => ∃ k : Int, cc = .int .i64 k ∧ (0 ≤ k ∧ k ≤ 4) ∧ Hid (1 ≤ k → ∀ a ∈ c.co, wrongCon a = 0) ∧ Hid (2 ≤ k → ∀ f ∈ c.inf, wrongInf c f = 0) ∧ Hid (3 ≤ k → ∀ g ∈ c.gl, wrongGlo c g = 0) ∧ Hid (4 ≤ k → ∀ (i : Nat) x, c.ins[i]? = some x → wrongI c i x = 0) ∧ Hid (Below W1.heap.size W1 wr)) (fun cc _ => (4 - intOf cc).toNat)
  case atStart => exact ⟨0, rfl, by omega, ⟨fun h => absurd h (by omega)⟩, ⟨fun h => absurd h (by omega)⟩, ⟨fun h => absurd h (by omega)⟩, ⟨fun h => absurd h (by omega)⟩, ⟨Below.refl _ _⟩⟩
  case round =>
    obtain ⟨k, rfl, hk, D0, D1, D2, D3, BB⟩ := hrel
    have hc : k = 0 ∨ k = 1 ∨ k = 2 ∨ k = 3 ∨ k = 4 := by omega
    rcases hc with rfl | rfl | rfl | rfl | rfl
    · have p0 : wr.cell? ⟨w.heap.size + 1, 0, none⟩ = some (.int .i64 c.co.length) := cellLater BB.out (HP.out 0 _ rfl)
      have p1 : wr.cell? ⟨w.heap.size + 1, 1, none⟩ = some (.func (.func 19) #[] #[ptr w.heap.size]) := cellLater BB.out (HP.out 1 _ rfl)
      have hlen : c.co.length ≤ 9223372036854775807 := by have := HV.out.co.len; unfold maxLen at this; omega
      obtain ⟨n, hn⟩ : ∃ n, c.co.length = n := ⟨_, rfl⟩
      have HN := Hid.mk hn
      rw [hn] at p0 hlen
      clear hn
      go_wp2
      have BX : Hid (Below W1.heap.size W1 (wr.alloc (.cells #[.int .i64 n, .func (.func 19) #[] #[ptr w.heap.size]] 63))) := ⟨belowOn BB.out (by go_grown)⟩
      have X1 : Hid ((wr.alloc (.cells #[.int .i64 n, .func (.func 19) #[] #[ptr w.heap.size]] 63)).cell? ⟨wr.heap.size, 1, none⟩ = some (.func (.func 19) #[] #[ptr w.heap.size])) := ⟨cellNew _ _ _ _ _ rfl⟩
      generalize (wr.alloc (.cells #[.int .i64 n, .func (.func 19) #[] #[ptr w.heap.size]] 63)) = wx at *
      clear p0 p1
      go_loopw [38] (fun cc wt => ∃ i : Nat, cc = .int .i64 i ∧ i ≤ n ∧ Hid (∀ (j : Nat) (hj : j < c.co.length), j < i → wrongCon (c.co[j]'hj) = 0) ∧ Hid (Below wx.heap.size wx wt)) (fun cc _ => n - (intOf cc).toNat)
      case atStart => exact ⟨0, rfl, Nat.zero_le _, ⟨fun j hj h => absurd h (by omega)⟩, ⟨Below.refl _ _⟩⟩
      case round =>
        obtain ⟨i, rfl, hii, Z, BT⟩ := hrel
        by_cases hlt : i < n
        · have kl : i < c.co.length := by rw [HN.out]; exact hlt
          have hlt' : (i : Int) < n := by omega
          have x1 := cellLater BT.out X1.out
          have B2 := belowOn BX.out BT.out
          have C := ask19 (HQ.out.later B2) (HV.out.later B2) i kl
          have HZ : Hid (wrongCon (c.co[i]'kl) = 0 → ∀ (j : Nat) (hj : j < c.co.length), j < i + 1 → wrongCon (c.co[j]'hj) = 0) := ⟨fun h j hj q => by
            by_cases e : j = i
            · subst e; exact h
            · exact Z.out j hj (by omega)⟩
          have HB : Hid (Bad c i (wrongCon (c.co[i]'kl))) := ⟨Or.inl ⟨i, _, List.getElem?_eq_getElem kl, rfl, rfl⟩⟩
          have HB2 := Hid.mk B2
          clear B2
          generalize wrongCon (c.co[i]'kl) = r at *
          by_cases hr : r = 0
          · subst hr
            go_wp2_with (go_at_call 19; refine C.mono ?_; rintro e w8 ⟨rfl, B8⟩)
            go_roundw
            case rel => exact ⟨i + 1, by go_num, by omega, ⟨HZ.out (by simp)⟩, ⟨belowOn BT.out B8⟩⟩
            case measure => simp [intOf]; omega
          · have hr' : (r != 0) = true := by simpa using hr
            go_wp2_with (go_at_call 19; refine C.mono ?_; rintro e w8 ⟨rfl, B8⟩)
            go_ret2
            exact ⟨_, _, rfl, Or.inr ⟨hr, HB.out⟩, belowOn HB0.out (belowOn HB2.out B8)⟩
        · obtain rfl : i = n := by omega
          go_wp2
          exact ⟨⟨1, rfl, by omega, ⟨fun _ a h => by obtain ⟨j, hj, rfl⟩ := List.getElem_of_mem h; exact Z.out j hj (by have := HN.out; omega)⟩, ⟨fun h => absurd h (by omega)⟩, ⟨fun h => absurd h (by omega)⟩, ⟨fun h => absurd h (by omega)⟩, ⟨belowOn BX.out BT.out⟩⟩, by simp [intOf]⟩
    · have p0 : wr.cell? ⟨w.heap.size + 1, 2, none⟩ = some (.int .i64 c.inf.length) := cellLater BB.out (HP.out 2 _ rfl)
      have p1 : wr.cell? ⟨w.heap.size + 1, 3, none⟩ = some (.func (.func 21) #[] #[ptr w.heap.size]) := cellLater BB.out (HP.out 3 _ rfl)
      have hlen : c.inf.length ≤ 9223372036854775807 := by have := HV.out.inf.len; unfold maxLen at this; omega
      obtain ⟨n, hn⟩ : ∃ n, c.inf.length = n := ⟨_, rfl⟩
      have HN := Hid.mk hn
      rw [hn] at p0 hlen
      clear hn
      go_wp2
      have BX : Hid (Below W1.heap.size W1 (wr.alloc (.cells #[.int .i64 n, .func (.func 21) #[] #[ptr w.heap.size]] 63))) := ⟨belowOn BB.out (by go_grown)⟩
      have X1 : Hid ((wr.alloc (.cells #[.int .i64 n, .func (.func 21) #[] #[ptr w.heap.size]] 63)).cell? ⟨wr.heap.size, 1, none⟩ = some (.func (.func 21) #[] #[ptr w.heap.size])) := ⟨cellNew _ _ _ _ _ rfl⟩
      generalize (wr.alloc (.cells #[.int .i64 n, .func (.func 21) #[] #[ptr w.heap.size]] 63)) = wx at *
      clear p0 p1
      go_loopw [38] (fun cc wt => ∃ i : Nat, cc = .int .i64 i ∧ i ≤ n ∧ Hid (∀ (j : Nat) (hj : j < c.inf.length), j < i → wrongInf c (c.inf[j]'hj) = 0) ∧ Hid (Below wx.heap.size wx wt)) (fun cc _ => n - (intOf cc).toNat)
      case atStart => exact ⟨0, rfl, Nat.zero_le _, ⟨fun j hj h => absurd h (by omega)⟩, ⟨Below.refl _ _⟩⟩
      case round =>
        obtain ⟨i, rfl, hii, Z, BT⟩ := hrel
        by_cases hlt : i < n
        · have kl : i < c.inf.length := by rw [HN.out]; exact hlt
          have hlt' : (i : Int) < n := by omega
          have x1 := cellLater BT.out X1.out
          have B2 := belowOn BX.out BT.out
          have C := ask21 (HQ.out.later B2) (HV.out.later B2) i kl
          have HZ : Hid (wrongInf c (c.inf[i]'kl) = 0 → ∀ (j : Nat) (hj : j < c.inf.length), j < i + 1 → wrongInf c (c.inf[j]'hj) = 0) := ⟨fun h j hj q => by
            by_cases e : j = i
            · subst e; exact h
            · exact Z.out j hj (by omega)⟩
          have HB : Hid (Bad c i (wrongInf c (c.inf[i]'kl))) := ⟨Or.inr (Or.inl ⟨i, _, List.getElem?_eq_getElem kl, rfl, rfl⟩)⟩
          have HB2 := Hid.mk B2
          clear B2
          generalize wrongInf c (c.inf[i]'kl) = r at *
          by_cases hr : r = 0
          · subst hr
            go_wp2_with (go_at_call 21; refine C.mono ?_; rintro e w8 ⟨rfl, B8⟩)
            go_roundw
            case rel => exact ⟨i + 1, by go_num, by omega, ⟨HZ.out (by simp)⟩, ⟨belowOn BT.out B8⟩⟩
            case measure => simp [intOf]; omega
          · have hr' : (r != 0) = true := by simpa using hr
            go_wp2_with (go_at_call 21; refine C.mono ?_; rintro e w8 ⟨rfl, B8⟩)
            go_ret2
            exact ⟨_, _, rfl, Or.inr ⟨hr, HB.out⟩, belowOn HB0.out (belowOn HB2.out B8)⟩
        · obtain rfl : i = n := by omega
          go_wp2
          exact ⟨⟨2, rfl, by omega, ⟨fun _ => D0.out (by omega)⟩, ⟨fun _ a h => by obtain ⟨j, hj, rfl⟩ := List.getElem_of_mem h; exact Z.out j hj (by have := HN.out; omega)⟩, ⟨fun h => absurd h (by omega)⟩, ⟨fun h => absurd h (by omega)⟩, ⟨belowOn BX.out BT.out⟩⟩, by simp [intOf]⟩
    · have p0 : wr.cell? ⟨w.heap.size + 1, 4, none⟩ = some (.int .i64 c.gl.length) := cellLater BB.out (HP.out 4 _ rfl)
      have p1 : wr.cell? ⟨w.heap.size + 1, 5, none⟩ = some (.func (.func 23) #[] #[ptr w.heap.size]) := cellLater BB.out (HP.out 5 _ rfl)
      have hlen : c.gl.length ≤ 9223372036854775807 := by have := HV.out.gl.len; unfold maxLen at this; omega
      obtain ⟨n, hn⟩ : ∃ n, c.gl.length = n := ⟨_, rfl⟩
      have HN := Hid.mk hn
      rw [hn] at p0 hlen
      clear hn
      go_wp2
      have BX : Hid (Below W1.heap.size W1 (wr.alloc (.cells #[.int .i64 n, .func (.func 23) #[] #[ptr w.heap.size]] 63))) := ⟨belowOn BB.out (by go_grown)⟩
      have X1 : Hid ((wr.alloc (.cells #[.int .i64 n, .func (.func 23) #[] #[ptr w.heap.size]] 63)).cell? ⟨wr.heap.size, 1, none⟩ = some (.func (.func 23) #[] #[ptr w.heap.size])) := ⟨cellNew _ _ _ _ _ rfl⟩
      generalize (wr.alloc (.cells #[.int .i64 n, .func (.func 23) #[] #[ptr w.heap.size]] 63)) = wx at *
      clear p0 p1
      go_loopw [38] (fun cc wt => ∃ i : Nat, cc = .int .i64 i ∧ i ≤ n ∧ Hid (∀ (j : Nat) (hj : j < c.gl.length), j < i → wrongGlo c (c.gl[j]'hj) = 0) ∧ Hid (Below wx.heap.size wx wt)) (fun cc _ => n - (intOf cc).toNat)
      case atStart => exact ⟨0, rfl, Nat.zero_le _, ⟨fun j hj h => absurd h (by omega)⟩, ⟨Below.refl _ _⟩⟩
      case round =>
        obtain ⟨i, rfl, hii, Z, BT⟩ := hrel
        by_cases hlt : i < n
        · have kl : i < c.gl.length := by rw [HN.out]; exact hlt
          have hlt' : (i : Int) < n := by omega
          have x1 := cellLater BT.out X1.out
          have B2 := belowOn BX.out BT.out
          have C := ask23 (HQ.out.later B2) (HV.out.later B2) i kl
          have HZ : Hid (wrongGlo c (c.gl[i]'kl) = 0 → ∀ (j : Nat) (hj : j < c.gl.length), j < i + 1 → wrongGlo c (c.gl[j]'hj) = 0) := ⟨fun h j hj q => by
            by_cases e : j = i
            · subst e; exact h
            · exact Z.out j hj (by omega)⟩
          have HB : Hid (Bad c i (wrongGlo c (c.gl[i]'kl))) := ⟨Or.inr (Or.inr (Or.inl ⟨i, _, List.getElem?_eq_getElem kl, rfl, rfl⟩))⟩
          have HB2 := Hid.mk B2
          clear B2
          generalize wrongGlo c (c.gl[i]'kl) = r at *
          by_cases hr : r = 0
          · subst hr
            go_wp2_with (go_at_call 23; refine C.mono ?_; rintro e w8 ⟨rfl, B8⟩)
            go_roundw
            case rel => exact ⟨i + 1, by go_num, by omega, ⟨HZ.out (by simp)⟩, ⟨belowOn BT.out B8⟩⟩
            case measure => simp [intOf]; omega
          · have hr' : (r != 0) = true := by simpa using hr
            go_wp2_with (go_at_call 23; refine C.mono ?_; rintro e w8 ⟨rfl, B8⟩)
            go_ret2
            exact ⟨_, _, rfl, Or.inr ⟨hr, HB.out⟩, belowOn HB0.out (belowOn HB2.out B8)⟩
        · obtain rfl : i = n := by omega
          go_wp2
          exact ⟨⟨3, rfl, by omega, ⟨fun _ => D0.out (by omega)⟩, ⟨fun _ => D1.out (by omega)⟩, ⟨fun _ a h => by obtain ⟨j, hj, rfl⟩ := List.getElem_of_mem h; exact Z.out j hj (by have := HN.out; omega)⟩, ⟨fun h => absurd h (by omega)⟩, ⟨belowOn BX.out BT.out⟩⟩, by simp [intOf]⟩
    · have p0 : wr.cell? ⟨w.heap.size + 1, 6, none⟩ = some (.int .i64 c.ins.length) := cellLater BB.out (HP.out 6 _ rfl)
      have p1 : wr.cell? ⟨w.heap.size + 1, 7, none⟩ = some (.func (.func 25) #[] #[ptr w.heap.size]) := cellLater BB.out (HP.out 7 _ rfl)
      have hlen : c.ins.length ≤ 9223372036854775807 := by have := HV.out.ins.len; unfold maxLen at this; omega
      obtain ⟨n, hn⟩ : ∃ n, c.ins.length = n := ⟨_, rfl⟩
      have HN := Hid.mk hn
      rw [hn] at p0 hlen
      clear hn
      go_wp2
      have BX : Hid (Below W1.heap.size W1 (wr.alloc (.cells #[.int .i64 n, .func (.func 25) #[] #[ptr w.heap.size]] 63))) := ⟨belowOn BB.out (by go_grown)⟩
      have X1 : Hid ((wr.alloc (.cells #[.int .i64 n, .func (.func 25) #[] #[ptr w.heap.size]] 63)).cell? ⟨wr.heap.size, 1, none⟩ = some (.func (.func 25) #[] #[ptr w.heap.size])) := ⟨cellNew _ _ _ _ _ rfl⟩
      generalize (wr.alloc (.cells #[.int .i64 n, .func (.func 25) #[] #[ptr w.heap.size]] 63)) = wx at *
      clear p0 p1
      go_loopw [38] (fun cc wt => ∃ i : Nat, cc = .int .i64 i ∧ i ≤ n ∧ Hid (∀ (j : Nat) (hj : j < c.ins.length), j < i → wrongI c j (c.ins[j]'hj) = 0) ∧ Hid (Below wx.heap.size wx wt)) (fun cc _ => n - (intOf cc).toNat)
      case atStart => exact ⟨0, rfl, Nat.zero_le _, ⟨fun j hj h => absurd h (by omega)⟩, ⟨Below.refl _ _⟩⟩
      case round =>
        obtain ⟨i, rfl, hii, Z, BT⟩ := hrel
        by_cases hlt : i < n
        · have kl : i < c.ins.length := by rw [HN.out]; exact hlt
          have hlt' : (i : Int) < n := by omega
          have x1 := cellLater BT.out X1.out
          have B2 := belowOn BX.out BT.out
          have C := ask25 (HT.out.later B2) (HQ.out.later B2) (HV.out.later B2) HS.out (fun a h => wrongCon_z (D0.out (by omega) a h)) i kl
          have HZ : Hid (wrongI c i (c.ins[i]'kl) = 0 → ∀ (j : Nat) (hj : j < c.ins.length), j < i + 1 → wrongI c j (c.ins[j]'hj) = 0) := ⟨fun h j hj q => by
            by_cases e : j = i
            · subst e; exact h
            · exact Z.out j hj (by omega)⟩
          have HB : Hid (Bad c i (wrongI c i (c.ins[i]'kl))) := ⟨Or.inr (Or.inr (Or.inr ⟨i, _, List.getElem?_eq_getElem kl, rfl, rfl⟩))⟩
          have HB2 := Hid.mk B2
          clear B2
          generalize wrongI c i (c.ins[i]'kl) = r at *
          by_cases hr : r = 0
          · subst hr
            go_wp2_with (go_at_call 25; refine C.mono ?_; rintro e w8 ⟨rfl, B8⟩)
            go_roundw
            case rel => exact ⟨i + 1, by go_num, by omega, ⟨HZ.out (by simp)⟩, ⟨belowOn BT.out B8⟩⟩
            case measure => simp [intOf]; omega
          · have hr' : (r != 0) = true := by simpa using hr
            go_wp2_with (go_at_call 25; refine C.mono ?_; rintro e w8 ⟨rfl, B8⟩)
            go_ret2
            exact ⟨_, _, rfl, Or.inr ⟨hr, HB.out⟩, belowOn HB0.out (belowOn HB2.out B8)⟩
        · obtain rfl : i = n := by omega
          go_wp2
          exact ⟨⟨4, rfl, by omega, ⟨fun _ => D0.out (by omega)⟩, ⟨fun _ => D1.out (by omega)⟩, ⟨fun _ => D2.out (by omega)⟩, ⟨fun _ j x h => by obtain ⟨hj, rfl⟩ := List.getElem?_eq_some_iff.1 h; exact Z.out j hj (by have := HN.out; omega)⟩, ⟨belowOn BX.out BT.out⟩⟩, by simp [intOf]⟩
    · go_wp2
      go_ret2
      exact ⟨_, _, rfl, Or.inl ⟨⟨D0.out (by omega), D1.out (by omega), D2.out (by omega), D3.out (by omega)⟩, rfl, rfl⟩, belowOn HB0.out BB.out⟩
end
end Go.Proofs.YtidplckoolmaiaaDoor
