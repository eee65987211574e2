/- A list of numbers put behind another, whichever of them is none. -/
import Derived.Test.YtaeehhonahhelaaSame
import Derived.Deep.AppendSrc
namespace Go.Proofs.Ytaeehhonahhelaa
open Go.RowKit
set_option linter.unusedVariables false

theorem ints_append (xs ys : List Int) : ints (xs ++ ys) = ints xs ++ ints ys := by simp [ints]
theorem onto_nil (w : World) (ty : TypeId) : (Builtin.append_ #[38, 38] ty #[.slice none 0 0, .slice none 0 0]).run Try.prog w = .ok (.slice none 0 0) w := by
  have hu := Try.underlying38
  obtain ⟨i0, hi, hz0, hz1, hz2⟩ := info_parts info3
  simp [Builtin.append_, run_underlying hu, sizeOf, typeInfo, hi, Builtin.lenOf, go_sem]
theorem onto_any {w : World} {n : Nat} {va vc : Value} {xs ys : List Int} (ho : w.ownsRow n 3 1 va xs.length (ints xs)) (hs : Sl w vc ys) (hl : xs.length + ys.length ≤ 20000) (sz : n ≤ w.heap.size) (ty : TypeId) :
    ∃ v' w', (Builtin.append_ #[38, 38] ty #[va, vc]).run Try.prog w = .ok v' w' ∧ w'.ownsRow n 3 1 v' (xs ++ ys).length (ints (xs ++ ys)) ∧ w.grownBy w' va.ownBlock ∧ (v'.ownBlock = va.ownBlock ∨ v'.ownBlock = some w.heap.size) := by
  obtain ⟨i0, hi, hz0, hz1, hz2⟩ := info_parts info3
  rcases hs with ⟨rfl, rfl⟩ | ⟨g, c, rfl, h1, h2⟩
  · rw [List.append_nil]
    rcases ho.2 with ⟨rfl, h0⟩ | ⟨g, cap, cur, rfl, hb, hg, q1, q2, q3, q4⟩
    · exact ⟨_, w, onto_nil w ty, ho, grown_refl _ _, .inl rfl⟩
    · have S := Src.ofNil (P := Try.prog) w (size := i0.size) (tx := 38) Try.underlying38 0
      have R := run_append_room_src (P := Try.prog) w 38 38 ty 3 i0 Try.underlying38 hi g 0 xs.length cap _ _ _ S (by omega) (fun j hj => by simp at hj) (fun j hj => by simp at hj)
      exact ⟨_, w, R, ho, grown_refl _ _, .inl rfl⟩
  · obtain ⟨v', w', hr, r2, r3, _, r5⟩ := run_append_own_at (P := Try.prog) w n 38 ty 3 i0 (.int .i64 0) 1 8 Try.underlying38 hi hz0 hz1 hz2 rfl (by decide) va xs.length (ints xs) ho ⟨g, 0, none⟩ ys.length c (ints ys) (by rw [ints_length]; omega)
      (fun j u hj => by
        have e : (⟨g, 0, none⟩ : Addr).add j = ⟨g, j, none⟩ := by unfold Addr.add; split <;> simp_all
        have lj : j < ys.length := by
          rcases Nat.lt_or_ge j ys.length with q | q
          · exact q
          · rw [List.getElem?_eq_none (by rw [ints_length]; exact q)] at hj; cases hj
        rw [e, h2 j lj, ← hj]
        simp [ints, lj])
      (fun u hu => by obtain ⟨_, _, rfl⟩ := List.mem_map.1 hu; simp [Value.oneCell']) (by unfold maxLen; omega) (by omega) sz
    exact ⟨v', w', hr, by rw [List.length_append, ints_append]; exact r2, r3, r5⟩
theorem wpList_onto {w : World} {ops : Array Oper} {rest : List Oper} {o : Oper} {a : Act} {Q : Exit → Act → World → Prop} (hgd : o.guard = none) (s x : Operand)
    (hop : o.op = .call { callee := .builtin .append, args := #[s, x], argTypes := #[38, 38] }) {n : Nat} {va vc : Value} {xs ys : List Int} (hs : a.eval s = va) (hx : a.eval x = vc)
    (ho : w.ownsRow n 3 1 va xs.length (ints xs)) (hsl : Sl w vc ys) (hl : xs.length + ys.length ≤ 20000) (sz : n ≤ w.heap.size)
    (h : ∀ v' w', w'.ownsRow n 3 1 v' (xs ++ ys).length (ints (xs ++ ys)) → w.grownBy w' va.ownBlock → (v'.ownBlock = va.ownBlock ∨ v'.ownBlock = some w.heap.size) → wpList Try.prog ops Q rest (a.put o.dst v') w') : wpList Try.prog ops Q (o :: rest) a w := by
  obtain ⟨v', w', hr, r2, r3, r4⟩ := onto_any ho hsl hl sz o.type
  refine wpList_plain hgd fun _ hK => ?_
  unfold Oper.wp execOp
  simp only [hop, resolve, invoke, builtin, Sem.run_bind, Sem.run_pure, Result.andThen_ok, List.map_toArray, List.map_cons, List.map_nil, hs, hx, hr]
  exact hK _ _ (h v' w' r2 r3 r4)
end Go.Proofs.Ytaeehhonahhelaa
