/- A program in memory. -/
import Derived.Test.YtcbdolflgpmaoaaDoorTreeMem
namespace Go.Proofs.YtcbdolflgpmaoaaDoor
open Go.RowKit

/-- a program in memory -/
def isPV (w : World) (ok : Nat → Prop) (p : Pg) (v : Value) : Prop := ∃ vd vb xb, v = .agg #[vd, vb] ∧ IsRow w ok (datC p.datas) p.datas.length vd ∧ IsRow w ok xb p.binds.length vb ∧ isBs w ok p.binds xb
theorem isPV_keeps {ok ok' : Nat → Prop} {w w' : World} (hk : Keeps ok ok' w w') {p : Pg} {v : Value} (h : isPV w ok p v) : isPV w' ok' p v := by
  obtain ⟨vd, vb, xb, e, h1, h2, h3⟩ := h
  exact ⟨vd, vb, xb, e, h1.keeps hk, h2.keeps hk, isBs_keeps hk _ _ h3⟩
end Go.Proofs.YtcbdolflgpmaoaaDoor
