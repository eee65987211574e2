/- The document's own Lay, for whatever number: it answers by the same plain numbers. -/
import Derived.Test.YtcallmfdigfhnaaBps
namespace Go.Proofs.Ytcallmfdigfhnaa
open Go.RowKit
set_option linter.unusedVariables false
set_option linter.unusedSimpArgs false

theorem Rh.self {w0 W : World} {x y M : Nat} {r0 r : Nat → Value} {L : Nat → List Int} {bl nx en : Nat} (h : Rh w0 W x y M r0 r L bl nx en) : Rh W W x y M r r L bl nx en :=
  ⟨h.box, h.row, h.nox, h.ap, fun k q => .inl q, Chg.refl _ _⟩
theorem rlay_any {w : World} {x y yb M N c : Nat} {r : Nat → Value} {S : S0} {f : Nat → Int} (h : Rs w x y M r S) (F : Fit S M) (hl : S.l.length ≤ 1000) (hR : Ref w y yb f N c) (G : Good f N) (hx : ∀ k, k = x ∨ ow r k → k ≠ y ∧ k ≠ yb) (hM : M ≤ 524288) (n : Int) :
    Calls Try.prog 28 #[.pointer (some ⟨x, 0, none⟩), .int .i64 n] w fun e w' => e = .returned (.tuple #[.int .i64 (layA f N M S.nx n), .int .i64 (layE f N M S.nx n)]) ∧
      ∃ r', Rs w' x y M r' (layS f N M S n) ∧ Ref w' y yb (layF f N M S.nx n) N c ∧ (∀ k, ow r' k → ow r k ∨ w.heap.size ≤ k) ∧ Chg (fun k => (k = x ∨ ow r k) ∨ k = yb) w w' := by
  by_cases hn : 1 ≤ n ∧ n ≤ 4096
  · obtain ⟨k, rfl⟩ : ∃ k : Nat, n = k := ⟨n.toNat, by omega⟩
    have hnx : S.nx ≤ 1048576 := by have := F.nx; have := blk_le S.nx; omega
    unfold layA layE layS layF
    simp only [if_pos hn, Int.toNat_natCast]
    rw [room_took]
    by_cases hk : k ≤ lft S.nx
    · simp only [if_pos hk]
      refine (rlay_in h hl hnx k (by omega) hk).mono ?_
      rintro e w' ⟨rfl, r', H⟩
      exact ⟨rfl, r', H.self, hR.chg H.chg (fun q => (hx _ q).1 rfl) (fun q => (hx _ q).2 rfl), H.old, H.chg.mono (fun j _ q => .inl q)⟩
    · simp only [if_neg hk]
      cases ht : took f N M (blk k) with
      | none =>
        simp only
        refine (rlay_full h hnx hR G (fun j q => (hx j q).2) k (by omega) (by omega) hM ht).mono ?_
        rintro e w' ⟨rfl, H, R, g⟩
        exact ⟨rfl, r, H, R, fun j q => .inl q, Chg.one g (.inr rfl)⟩
      | some z =>
        simp only
        obtain ⟨i, hz⟩ : ∃ i, z = (i * 64, mark f i (blk k) i) := by
          unfold took at ht
          cases hf : fit f N ((blk k : Nat) : Int) with
          | none => rw [hf] at ht; cases ht
          | some s =>
            rw [hf] at ht
            simp only at ht
            split at ht
            · cases ht
            · simp only [Option.some.injEq] at ht
              exact ⟨s.1, ht.symm⟩
        subst hz
        simp only
        have fb := F.bl
        refine (rlay_new h hl (by omega) hnx hR G hx k (by omega) (by omega) hM ht).mono ?_
        rintro e w' ⟨rfl, w1, r', g, H, R⟩
        have gs := g.size
        refine ⟨rfl, r', H.self, R, fun j q => ?_, (Chg.one g (.inr rfl)).trans (H.chg.mono (fun j _ q => .inl q))⟩
        rcases H.old j q with z | z
        · exact .inl z
        · exact .inr (by omega)
  · unfold layA layE layS layF
    simp only [if_neg hn]
    have HH := Hid.mk (show ∃ r', Rs w x y M r' S ∧ Ref w y yb f N c ∧ (∀ k, ow r' k → ow r k ∨ w.heap.size ≤ k) ∧ Chg (fun k => (k = x ∨ ow r k) ∨ k = yb) w w from ⟨r, h, hR, fun k q => .inl q, Chg.refl _ _⟩)
    clear h F hR G
    by_cases h0 : n < 1
    · go_enter Try.func28, Try.ntmps28
      go_wp2
      go_ret2
      exact ⟨rfl, HH.out⟩
    · have h3 : 4096 < n := by omega
      have h4 : 1 ≤ n := by omega
      go_enter Try.func28, Try.ntmps28
      go_wp2
      go_ret2
      exact ⟨rfl, HH.out⟩
end Go.Proofs.Ytcallmfdigfhnaa
