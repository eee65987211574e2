/- The two texts that every statement of the layer parses: their trees, by reckoning. Of no program. -/
import Derived.Test.YtoedeedoecdajaaDoorParse
import Derived.Test.YtoedeedoecdajaaDoorTreeSame
import Derived.Test.YtoedeedoecdajaaDoorProg
import Derived.Test.YtoedeedoecdajaaDoorSize
namespace Go.Proofs.YtoedeedoecdajaaDoor

def awText : List UInt8 := [100, 97, 116, 97, 32, 67, 32, 49, 59, 32, 102, 32, 61, 32, 92, 32, 120, 32, 45, 62, 32, 99, 97, 115, 101, 32, 120, 32, 111, 102, 32, 123, 32, 67, 32, 121, 32, 45, 62, 32, 121, 59, 32, 51, 32, 45, 62, 32, 103, 32, 120, 32, 49, 59, 32, 122, 32, 45, 62, 32, 67, 32, 122, 59, 32, 125, 59]
def awAlts : List A := [.mk 1 33 [67] 0 [[121]] (.mk 1 40 [121] 0 [] [] [] []), .mk 2 43 [] 3 [] (.mk 1 48 [103] 0 [⟨[120], 0⟩, ⟨[], 1⟩] [] [] []), .mk 3 55 [122] 0 [] (.mk 2 60 [67] 0 [⟨[122], 0⟩] [] [] [])]
def awBind : B := .mk [102] 10 [[120]] (.mk 6 21 [] 0 [] [] [.mk 1 26 [120] 0 [] [] [] []] awAlts)
theorem aw_parse : parseT awText = .ok ⟨[⟨[67], 1, 5⟩], [awBind]⟩ := by kernel_rfl
theorem aw_short : parseT [102, 32, 61, 32, 120] = .error (5, 23) := by kernel_rfl
theorem aw_size : sizeP ⟨[⟨[67], 1, 5⟩], [awBind]⟩ = 5 := by kernel_rfl

end Go.Proofs.YtoedeedoecdajaaDoor

/- What must come at any rate. -/
namespace Go.Proofs.YtoedeedoecdajaaDoor
open Go.RowKit
set_option linter.unusedVariables false
set_option linter.unusedSimpArgs false

theorem parse_at {s : ByteArray} {r : Except (Nat × Int) Pg} (h : parseT s.data.toList = r) (w : World) (L : Laid w) : Calls Tryd.prog 10 #[.string s] w (ParsesTo w r) := by
  subst h
  exact parse_any s w L
theorem isPV_keeps {ok ok' : Nat → Prop} {w w' : World} (hk : Keeps ok ok' w w') {p : Pg} {v : Value} (h : isPV w ok p v) : isPV w' ok' p v := by
  obtain ⟨vd, vb, xb, e, ID, IB, IBS⟩ := h
  exact ⟨vd, vb, xb, e, ID.keeps hk, IB.keeps hk, isBs_keeps hk _ _ IBS⟩
/-- two slices -/
theorem isPV_two {w : World} {ok : Nat → Prop} {p : Pg} {v : Value} (h : isPV w ok p v) : ∃ gd cd gb cb, v = .agg #[.slice gd p.datas.length cd, .slice gb p.binds.length cb] := by
  obtain ⟨vd, vb, xb, e, ID, IB, IBS⟩ := h
  obtain ⟨gd, cd, rfl, _⟩ := row_parts ID
  obtain ⟨gb, cb, rfl, _⟩ := row_parts IB
  exact ⟨gd, cd, gb, cb, e⟩
/-- the first bind's body's alternatives -/
theorem isPV_alts {w : World} {ok : Nat → Prop} {ds : List D} {n : List UInt8} {a : Int} {as' : List (List UInt8)} {k a' : Int} {nm : List UInt8} {m : Int} {ts : List Atm} {bs : List B} {ks : List E} {al : List A} {gd gb : Option Addr} {cd cb nd nb : Nat}
    (h : isPV w ok ⟨ds, [.mk n a as' (.mk k a' nm m ts bs ks al)]⟩ (.agg #[.slice gd nd cd, .slice gb nb cb])) : ∃ g off gl cl, gb = some ⟨g, off, none⟩ ∧ w.cell? ⟨g, off + 10, none⟩ = some (.slice gl al.length cl) := by
  obtain ⟨vd, vb, xb, e, ID, IB, IBS⟩ := h
  simp only [Value.agg.injEq, Array.mk.injEq, List.cons.injEq, and_true] at e
  obtain ⟨rfl, rfl⟩ := e
  obtain ⟨gb', cb', e, _⟩ := row_parts IB
  cases e
  obtain ⟨g, off, rfl, hx⟩ := row_cell IB (by simp)
  simp only [isBs] at IBS
  obtain ⟨c1, c2, rfl, I1, rfl⟩ := IBS
  simp only [isB] at I1
  obtain ⟨va, d, rfl, _, I2⟩ := I1
  simp only [isE] at I2
  obtain ⟨vt, vb, vk, va', xb, xk, xa, rfl, _, _, _, _, _, IA, _⟩ := I2
  obtain ⟨gl, cl, rfl, _⟩ := row_parts IA
  exact ⟨g, off, gl, cl, rfl, hx 10 _ rfl⟩

set_option maxRecDepth 100000 in
set_option maxHeartbeats 4000000 in
theorem awake_any (w : World) (L : Laid w) : Calls Tryd.prog 7 #[] w fun e w' => e = .returned (.bool true) ∧ Below w.heap.size w w' := by
  have PA := fun W LW => parse_at (s := ⟨awText.toArray⟩) aw_parse W LW
  have PB := fun W LW => parse_at (s := ⟨#[102, 32, 61, 32, 120]⟩) aw_short W LW
  have HL : Hid (Laid w) := ⟨L⟩
  clear L
  go_enter Tryd.func7, Tryd.ntmps7
  go_wp2_with (first
    | (go_at_call 10; refine (PA w HL.out).mono ?_; rintro e w1 ⟨B1, v, rfl, I1⟩; obtain ⟨gd, cd, gb, cb, rfl⟩ := isPV_two I1; obtain ⟨g, off, gl, cl, rfl, x10⟩ := isPV_alts I1; have HI : Hid (isPV w1 (new w w1) _ _) := ⟨I1⟩; clear I1 PA)
    | (go_at_call 10; refine (PB _ ((HL.out.later B1).later (Joins.below_alloc1 w1 _))).mono ?_; rintro e w2 ⟨B2, rfl, _⟩; have D2 := (Blk.fresh w1 #[.slice gd 1 cd, .slice (some ⟨g, off, none⟩) 1 cb] 25).kept (row := none) ⟨B2.os, B2.tape, B2.output, B2.size, fun i hi _ => B2.block i hi⟩ (by simp); have y0 : w2.cell? ⟨w1.heap.size, 0, none⟩ = some (.slice gd 1 cd) := D2.cell 0; have y1 : w2.cell? ⟨w1.heap.size, 1, none⟩ = some (.slice (some ⟨g, off, none⟩) 1 cb) := D2.cell 1; have B12 : Below w1.heap.size w1 w2 := (Joins.below_alloc1 w1 _).trans (Joins.below_le B2 (by simp)); have z10 : w2.cell? ⟨g, off + 10, none⟩ = some (.slice gl 3 cl) := (B12.cell (World.block_lt_of_cell? _ _ x10)).trans x10; have lt1 : w1.heap.size < w2.heap.size := D2.lt; have lt2 : g < w2.heap.size := World.block_lt_of_cell? _ _ z10; have HB12 : Hid (Below w1.heap.size w1 w2) := ⟨B12⟩; have HB1 : Hid (Below w.heap.size w w1) := ⟨B1⟩; have SZ : ∀ o, Calls Tryd.prog 11 #[.agg #[.slice gd 1 cd, .slice (some ⟨g, off, none⟩) 1 cb]] (w2.alloc o) fun e w' => e = .returned (.int .i64 5) ∧ Below (w2.alloc o).heap.size (w2.alloc o) w' := (fun o => by have q := size_any (w := w2.alloc o) (ok := new w w1) (fun g hg => by have := hg.2; have := B12.size; simp; omega) (isPV_keeps (keeps_below (B12.trans (Joins.below_le (Joins.below_alloc1 w2 o) B12.size)) (fun _ h => h)) HI.out); rw [aw_size, szI_small 5 (by decide)] at q; exact q); clear B2 D2 B12 B1 PB)
    | (go_at_call 11; refine (SZ _).mono ?_; rintro e w3 ⟨rfl, B3⟩))
  go_ret
  have b2 := HB1.out.trans (Joins.below_le HB12.out HB1.out.size)
  have b3 : Below w.heap.size w w3 := b2.trans (Joins.below_le ((Joins.below_alloc1 w2 _).trans (Joins.below_le B3 (by simp))) b2.size)
  exact ⟨rfl, b3⟩

end Go.Proofs.YtoedeedoecdajaaDoor
