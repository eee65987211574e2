/- The sign that a text begins with, by its rune. -/
import Derived.Test.YtcbdolflgpmaoaaDoorTok
import Derived.Laws.Runes
import Derived.Laws.RangeString
namespace Go.Proofs.YtcbdolflgpmaoaaDoor
open Go.RowKit
set_option linter.unusedVariables false

/-- The sign that a list begins with; of none the empty list. -/
def signL (l : List UInt8) : List UInt8 :=
  if Lib.hasPrefix l [45, 62] then [45, 62] else match l with
    | [] => []
    | c :: _ => if sg c.toNat then [c] else []

theorem encode_ascii (c : UInt8) (h : c.toNat < 128) : Utf8.encode ((c.toNat : Nat) : Int) = ⟨#[c]⟩ := by
  have hv : Utf8.valid ((c.toNat : Nat) : Int) = true := by simp [Utf8.valid]; left; omega
  unfold Utf8.encode
  simp only [hv, if_true, Int.toNat_natCast]
  rw [if_pos h]
  simp
theorem list_head (t : ByteArray) (h : 0 < t.size) : t.data.toList = t[0]'h :: t.data.toList.drop 1 := by
  have := get_list t 0 h
  simpa using this

end Go.Proofs.YtcbdolflgpmaoaaDoor

