/- No more tokens than bytes; a list is the same as itself. -/
import Derived.Test.YtadmibdcdpggpaaDoorLies
namespace Go.Proofs.YtadmibdcdpggpaaDoor
open Go.RowKit
theorem scanF_short : ∀ (f : Nat) (l : List UInt8) (a : Nat), (scanL (scanF f l a)).length ≤ l.length
  | 0, l, a => Nat.zero_le _
  | f + 1, l, a => by
    by_cases hk : skipN false l < l.length
    · cases hr : readT (l.drop (skipN false l)) with
      | error er => rw [scanF_err _ _ _ hk hr]; exact Nat.zero_le _
      | ok t =>
        have hl := readT_len hr
        rw [scanF_ok _ _ _ hk hr]
        have ih := scanF_short f ((l.drop (skipN false l)).drop t.len) (a + skipN false l + t.len)
        cases hs : scanF f ((l.drop (skipN false l)).drop t.len) (a + skipN false l + t.len) with
        | error q => exact Nat.zero_le _
        | ok us =>
          rw [hs] at ih
          simp only [scanL, ahead, List.length_append, List.length_drop, List.length_cons, List.length_nil] at ih hl ⊢
          omega
    · rw [scanF_end _ _ _ hk]; exact Nat.zero_le _
theorem scan_short (l : List UInt8) : (scanL (scanAll l)).length ≤ 16384 := by
  unfold scanAll
  split
  · exact Nat.zero_le _
  · have := scanF_short (l.length + 1) l 0
    omega
theorem sameT_refl (p : Bool) (t : Tok) : sameT p t t = true := by simp [sameT]
theorem sameL_refl (p : Bool) : ∀ ts : List Tok, sameL p ts ts = true
  | [] => rfl
  | t :: r => by rw [sameL, sameT_refl, sameL_refl p r]; rfl
end Go.Proofs.YtadmibdcdpggpaaDoor
