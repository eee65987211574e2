/- newWay; slices.Clone. -/
import Derived.Test.YtncimddgkgclpaaMta
import Derived.Test.YtncimddgkgclpaaWyb
namespace Go.Proofs.Ytncimddgkgclpaa
open Go.RowKit
set_option linter.unusedVariables false
set_option linter.unusedSimpArgs false
set_option maxRecDepth 100000

theorem Fil.ir {W : World} {g n : Nat} {x : Int} (h : Fil W g n n x) : IR W g n (fun _ => x) := by
  obtain ⟨c, h1, h2, h3, _⟩ := h
  exact ⟨c, h1, h2, fun i hi => h3 i hi⟩
theorem IR.later {w w' : World} {b m : Nat} {E : Nat → Int} (h : IR w b m E) (B : Below w.heap.size w w') : IR w' b m E :=
  h.block fun o e _ => (B.block _ (Array.getElem?_eq_some_iff.1 e).1).trans e
theorem Iw.start (g : List Nd) : Iw g (fun _ => -2) (fun _ => -1) [] := ⟨fun _ _ => .inl rfl, fun i h => absurd h (Nat.not_lt_zero _), fun _ _ _ => .inl rfl⟩
set_option maxHeartbeats 2000000 in
theorem newWay26 (g : List Nd) (a : Option Addr) (ca : Nat) (w : World) (h : Nds w g (.slice a g.length ca)) (hm : g.length ≤ 1000) :
    Calls Try.prog 26 #[.slice a g.length ca] w fun e w' => ∃ wb eb sb, e = .returned (pt wb) ∧ Wy w w' wb eb sb g a ca (fun _ => -2) (fun _ => -1) (.slice none 0 0) [] := by
  obtain ⟨m, hm'⟩ : ∃ m, g.length = m := ⟨_, rfl⟩
  have HM := Hid.mk hm'
  have HH := Hid.mk h
  rw [hm'] at hm ⊢
  clear hm' h
  have B1 : Below w.heap.size w (w.alloc (.cells #[.int .i64 (-2)] 3)) := by go_grown
  have R1 := repeat_any (w.alloc (.cells #[.int .i64 (-2)] 3)) w.heap.size (-2) m hm (by simp [go_sem])
  have R2 := fun (W : World) => repeat_any (W.alloc (.cells #[.int .i64 (-1)] 3)) W.heap.size (-1) m hm (by simp [go_sem])
  have HB1 := Hid.mk B1
  have HR1 := Hid.mk R1
  have HR2 := Hid.mk R2
  clear B1 R1 R2
  go_enter Try.func26, Try.ntmps26
  go_wp2_with (first | (go_at_call_of 41 (Value.slice (some ⟨w.heap.size, 0, none⟩) 1 1); refine HR1.out.mono ?_; rintro e w1 ⟨g1, rfl, hg1, F1, b1⟩; have HF1 := Hid.mk (And.intro hg1 (And.intro F1 b1)); clear hg1 F1 b1; have X2 := HR2.out w1) | (go_at_call 41; refine X2.mono ?_; clear X2; rintro e w2 ⟨g2, rfl, hg2, F2, b2⟩; have HF2 := Hid.mk (And.intro hg2 (And.intro F2 b2)); clear hg2 F2 b2))
  go_ret
  obtain ⟨hg1, F1, b1⟩ := HF1.out
  obtain ⟨hg2, F2, b2⟩ := HF2.out
  have b3 : Below w1.heap.size w1 w2 := ((Below.refl _ w1).alloc (Nat.le_refl _) (.cells #[.int .i64 (-1)] 3)).trans (b2.mono (by simp))
  have b4 := (Below.refl _ w2).alloc (Nat.le_refl _) (.cells #[.slice a m ca, .slice (some ⟨g1, 0, none⟩) m m, .slice none 0 0, .slice (some ⟨g2, 0, none⟩) m m] 64)
  have l1 := F1.lt
  have s1 : (w.alloc (.cells #[.int .i64 (-2)] 3)).heap.size = w.heap.size + 1 := by simp
  have s2 : (w1.alloc (.cells #[.int .i64 (-1)] 3)).heap.size = w1.heap.size + 1 := by simp
  have hm2 := HM.out
  subst hm2
  refine ⟨w2.heap.size, g1, g2, rfl, ?_⟩
  refine ⟨HB1.out.trans ((b1.mono (by omega)).trans ((b3.mono (by have := b1.size; omega)).trans (b4.mono (by have := b1.size; have := b3.size; omega)))), HH.out, heap_alloc_new _ _, (F1.ir.later b3).later b4, F2.ir.later b4, World.ownsRow_nil _ _ _ _, ⟨by have := b1.size; have := b3.size; omega, by omega, by have := b1.size; omega⟩, by omega⟩
/-- a way is not touched by what turns no block of its kinds -/
theorem Wy.ky {w0 w w' : World} {wb eb sb ca : Nat} {g : List Nd} {a : Option Addr} {E S : Nat → Int} {v : Value} {P : List (Nat × Bool)} {T : List Nat} (h : Wy w0 w wb eb sb g a ca E S v P) (K : Ky w0.heap.size (fun _ => False) T w w') (h3 : 3 ∉ T) (h64 : 64 ∉ T) (h67 : 67 ∉ T) : Wy w0 w' wb eb sb g a ca E S v P := by
  have ir : ∀ {b : Nat} {F : Nat → Int}, IR w b g.length F → IR w' b g.length F := fun {b F} q => by
    obtain ⟨c, q1, q2⟩ := q
    exact ⟨c, K.keep _ _ _ _ q1 h3 id, q2⟩
  refine ⟨h.bel.trans K.bel, h.nds, K.keep _ _ _ _ h.box h64 id, ir h.ends, ir h.spots, ?_, h.lo, h.ne⟩
  obtain ⟨hl, r⟩ := h.path
  refine ⟨hl, ?_⟩
  rcases r with e | ⟨pb, cap, cur, e, hb, hg, r⟩
  · exact .inl e
  · exact .inr ⟨pb, cap, cur, e, hb, K.keep _ _ _ _ hg h67 id, r⟩
def words (l : List Int) : List Value := l.map (Value.int .u64)
theorem info40 : (Try.prog.info? 40).map (fun i => (i.zero, i.size, i.bytes)) = some (some (.int .u64 0), 1, 8) := by kernel_rfl
set_option maxHeartbeats 2000000 in
theorem clone39 {lo : Nat} {X : Nat → Prop} (l : List Int) (o : Option Addr) (cap : Nat) (w : World) (P : PS .u64 w o cap l) (hl : l.length * 8 ≤ 140737488355328) (hlo : lo ≤ w.heap.size) (hX : ∀ k, X k → k < w.heap.size) :
    Calls Try.prog 39 #[.slice o l.length cap] w fun e w' => (∃ o' c', e = .returned (.slice o' l.length c') ∧ Fs lo X w' .u64 40 o' c' l) ∧ Below w.heap.size w w' := by
  have hc := P.cap
  have HP := Hid.mk P
  obtain ⟨n, hn⟩ : ∃ n, l.length = n := ⟨_, rfl⟩
  have HN := Hid.mk hn
  rw [hn] at hl hc ⊢
  clear P hn
  cases o with
  | none =>
    have e : l = [] := by
      cases l with
      | nil => rfl
      | cons x r =>
        obtain ⟨_, _, q, _⟩ := HP.out.get 0 (by simp)
        cases q
    subst e
    have e2 : n = 0 := HN.out.symm
    subst e2
    have he : ∀ w : World, (binOp .eql 32 (.slice none 0 cap) (.slice none 0 0)).run Try.prog w = .ok (.bool true) w := fun _ => rfl
    go_enter Try.func39, Try.ntmps39
    go_wp2
    go_ret
    exact ⟨⟨none, 0, rfl, Nat.zero_le _, Nat.zero_le _, fun h => absurd h (Nat.lt_irrefl _)⟩, Below.refl _ _⟩
  | some ad =>
    have B1 : Below w.heap.size w (w.alloc (.cells #[] 40)) := by go_grown
    have HB1 := Hid.mk B1
    have hsz : w.heap.size ≤ (w.alloc (.cells #[] 40)).heap.size := B1.size
    have HS : Hid (0 < n → ∃ a, some ad = some a ∧ ∀ j u, (words l)[j]? = some u → (w.alloc (.cells #[] 40)).cell? (a.add j) = some u) := ⟨fun hp => by
      obtain ⟨g, off, e, hx⟩ := (HP.out.later B1).num (by rw [HN.out]; exact hp)
      refine ⟨_, e, fun j u hu => ?_⟩
      unfold words at hu
      rw [List.getElem?_map] at hu
      cases hj : l[j]? with
      | none => rw [hj] at hu; cases hu
      | some x =>
        rw [hj] at hu
        cases hu
        obtain ⟨h1, h2⟩ := List.getElem?_eq_some_iff.1 hj
        have := hx j h1
        rw [h2] at this
        have e3 : (⟨g, off, none⟩ : Addr).add j = ⟨g, off + j, none⟩ := by unfold Addr.add; split <;> simp_all
        rw [e3]; exact this⟩
    have hw : (words l).length = n * 1 := by simp [words, HN.out]
    obtain ⟨i0, hi, hz0, hz1, hz2⟩ := info_parts info40
    have HW := Hid.mk hw
    clear B1 hw
    have he : ∀ w : World, (binOp .eql 32 (.slice (some ad) n cap) (.slice none 0 0)).run Try.prog w = .ok (.bool false) w := fun _ => rfl
    go_enter Try.func39, Try.ntmps39
    go_wp2_with (at_builtin; go_loud (refine wpList_append_T rfl (.tmp 5) (.tmp 6) 32 rfl w.heap.size 40 i0 _ 1 8 Try.underlying32 hi hz0 hz1 hz2 rfl (by decide) (.slice (some ⟨w.heap.size, 0, none⟩) 0 0) 0 [] rfl (.inl ⟨rfl, rfl, _, rfl⟩) (some ad) n cap (words l) rfl HW.out HS.out (fun u hu => by obtain ⟨x, _, rfl⟩ := List.mem_map.1 hu; rfl) n (Nat.zero_add n) (words l) rfl (by unfold Go.maxLen; omega) hl hsz ?_; intro g1 c1 w1 R1 BB1; have HR1 := Hid.mk R1; have HBB := Hid.mk BB1; clear R1 BB1))
    go_ret
    obtain ⟨row, gr, hr⟩ := HBB.out
    have hrow : row = none := by
      cases row with
      | none => rfl
      | some k => exact absurd (hr k rfl).1 (Nat.lt_irrefl _)
    subst hrow
    have B2 : Below w.heap.size w w1 := HB1.out.trans ⟨gr.os, gr.tape, gr.output, gr.size, fun k hk => gr.block k (by omega) (by simp)⟩
    refine ⟨⟨g1, c1, rfl, ?_⟩, B2⟩
    rcases HR1.out with ⟨e0, _, ga, e1⟩ | ⟨hp, hl2, ⟨e1, e0⟩ | ⟨pb, cap', cur, e, hb, hg, h1, h2, h3, h4⟩⟩
    · exact ⟨by rw [HN.out, e0]; exact Nat.zero_le _, by rw [HN.out]; omega, fun q => by rw [HN.out, e0] at q; omega⟩
    · omega
    · have ee : g1 = some ⟨pb, 0, none⟩ ∧ c1 = cap' := by simp at e; exact ⟨e.1, e.2⟩
      obtain ⟨rfl, rfl⟩ := ee
      refine ⟨by rw [HN.out]; exact h1, by rw [HN.out]; omega, fun _ => ⟨pb, 0, cur, rfl, Nat.le_trans hlo hb, fun q => by have := hX _ q; omega, hg, fun i hi => ?_⟩⟩
      have h5 : (cur.toList.take (n * 1))[i]? = (words l)[i]? := by rw [h4]
      have hin : i < n := by rw [← HN.out]; exact hi
      rw [List.getElem?_take_of_lt (by omega)] at h5
      unfold words at h5
      rw [List.getElem?_map, List.getElem?_eq_getElem hi] at h5
      rw [Nat.zero_add]
      simpa using h5
end Go.Proofs.Ytncimddgkgclpaa
