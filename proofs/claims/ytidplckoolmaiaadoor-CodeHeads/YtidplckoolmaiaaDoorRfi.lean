/- The document's own check: whether one of some places is none. -/
import Derived.Test.YtidplckoolmaiaaDoorRfb
namespace Go.Proofs.YtidplckoolmaiaaDoor
open Go.RowKit
set_option linter.unusedVariables false
set_option linter.unusedSimpArgs false

def isNum (x : Int) (c : List Value) : Prop := c = [.int .i64 x]
section
variable {w : World} {c : Cd} {vc vg vi vn : Value}
set_option maxRecDepth 100000 in
set_option maxHeartbeats 2000000 in
theorem outsideW_any (V : Cv w c vc vg vi vn) (loc : Int) (l : List Int) (v : Value) (L : Lst w 1 isNum l v) : Calls Tryd.prog 34 #[.agg #[vc, vg, vi, vn], .int .i64 loc, v] w fun e w' => ∃ r : Bool, e = .returned (.bool r) ∧ Below w.heap.size w w' := by
  have HL := Hid.mk L
  obtain ⟨ga, cap, rfl, hc, hx⟩ := L
  obtain ⟨n, hn⟩ : ∃ n, l.length = n := ⟨_, rfl⟩
  have HN := Hid.mk hn
  rw [hn] at hc ⊢
  have hc2 := hc.2
  unfold maxLen at hc2
  obtain ⟨⟨gc, cc, rfl, _⟩, ⟨gg, cg, rfl, _⟩, ⟨gi, ci, rfl, _⟩, ⟨gn, cn, rfl, _⟩⟩ := V
  clear hx hn hc
  obtain ⟨W1, hW1⟩ : ∃ W1, W1 = w.alloc (.cells #[.slice gc c.co.length cc, .slice gg c.gl.length cg, .slice gi c.inf.length ci, .slice gn c.ins.length cn] 27) := ⟨_, rfl⟩
  have HB : Hid (Below w.heap.size w W1) := ⟨by subst hW1; go_grown⟩
  have H1 : Hid (W1.cell? ⟨w.heap.size, 1, none⟩ = some (.slice gg c.gl.length cg)) := ⟨by subst hW1; exact cellNew _ _ _ _ _ rfl⟩
  go_enter Tryd.func34, Tryd.ntmps34
  go_wp2
  rw [← hW1]
  clear hW1
  go_loopw [7] (fun cc wr => ∃ i : Nat, cc = .int .i64 i ∧ i ≤ n ∧ Hid (Below W1.heap.size W1 wr)) (fun cc _ => n - (intOf cc).toNat)
  case atStart => exact ⟨0, rfl, Nat.zero_le _, ⟨Below.refl _ _⟩⟩
  case round =>
    obtain ⟨i, rfl, hi, BB⟩ := hrel
    by_cases hlt : i < n
    · have kl : i < l.length := by rw [HN.out]; exact hlt
      obtain ⟨g, off, cap', cs, e, _, _, pc, hx⟩ := (HL.out.later (belowOn HB.out BB.out) fun _ _ h => h).get i kl
      rw [HN.out] at e
      simp only [Value.slice.injEq] at e
      obtain ⟨rfl, _, rfl⟩ := e
      unfold isNum at pc
      subst pc
      have c0 : wr.cell? ⟨g, off + i, none⟩ = some (.int .i64 (l[i]'kl)) := by have := hx 0 _ rfl; simpa using this
      generalize l[i]'kl = x at *
      have hlt' : (i : Int) < n := by omega
      have q1 := cellLater BB.out H1.out
      clear hx
      by_cases a1 : loc ≤ x
      · have d1 : decide (loc ≤ x) = true := by simpa using a1
        clear kl
        go_wp2
        go_quiet (fail)
        all_goals go_wp2
        all_goals first
          | (go_ret; exact ⟨_, rfl, belowOn HB.out (below_drewN BB.out _)⟩)
          | exact ⟨⟨i + 1, by go_num, by omega, ⟨below_drewN BB.out _⟩⟩, by simp [intOf]; omega⟩
      · have d1 : decide (loc ≤ x) = false := by simpa using a1
        by_cases a2 : x < 0
        · have d2 : decide (x < 0) = true := by simpa using a2
          clear kl
          go_wp2
          go_quiet (fail)
          all_goals go_wp2
          all_goals first
            | (go_ret; exact ⟨_, rfl, belowOn HB.out (below_drewN BB.out _)⟩)
            | exact ⟨⟨i + 1, by go_num, by omega, ⟨below_drewN BB.out _⟩⟩, by simp [intOf]; omega⟩
        · have d2 : decide (x < 0) = false := by simpa using a2
          clear kl
          go_wp2
          go_quiet (fail)
          all_goals go_wp2
          all_goals first
            | (go_ret; exact ⟨_, rfl, belowOn HB.out (below_drewN BB.out _)⟩)
            | exact ⟨⟨i + 1, by go_num, by omega, ⟨below_drewN BB.out _⟩⟩, by simp [intOf]; omega⟩
    · obtain rfl : i = n := by omega
      go_wp2
      go_ret
      exact ⟨_, rfl, belowOn HB.out BB.out⟩
end
end Go.Proofs.YtidplckoolmaiaaDoor
