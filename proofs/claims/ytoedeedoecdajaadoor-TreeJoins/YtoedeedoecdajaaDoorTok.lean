/- Tokens as values; what the calls read of the library's variables; a word, a number, a sign. -/
import Derived.Test.YtoedeedoecdajaaDoorNext
import Derived.Lib.SmallJoins
namespace Go.Proofs.YtoedeedoecdajaaDoor
open Go.RowKit
set_option linter.unusedVariables false

/-- What the calls read of the library's variables: the tables of unicode/utf8, the powers of ten, an error. -/
structure Laid (w : World) : Prop where
  tabs : Lib.Utf8Tabs 0 1 w
  rng : ∃ te pe, w.cell? ⟨4, 0, none⟩ = some (.iface te pe)
  pow : Lib.TabIs Tryd.prog w "internal/strconv.uint64pow10" .u64 Lib.pow10Tab
theorem Laid.later {w w' : World} (h : Laid w) (hb : Below w.heap.size w w') : Laid w' := by
  refine ⟨Utf8Tabs_below h.tabs hb, ?_, ?_⟩
  · obtain ⟨te, pe, hc⟩ := h.rng
    exact ⟨te, pe, (hb.cell (World.block_lt_of_cell? _ _ hc)).trans hc⟩
  · exact Joins.tab_stays (g := 5) (by kernel_rfl) h.pow hb (Nat.le_refl _)

def str (l : List UInt8) : ByteArray := ⟨l.toArray⟩
theorem str_eq {s : ByteArray} {l : List UInt8} (h : s.data.toList = l) : s = str l := by
  subst h; rfl
theorem str_list (l : List UInt8) : (str l).data.toList = l := by simp [str]
theorem str_size (l : List UInt8) : (str l).size = l.length := by simp [str, ByteArray.size]

/-- A token as a value. -/
def tokV (k : Int) (t : ByteArray) (n a : Int) : Value := .agg #[.int .i64 k, .string t, .int .i64 n, .int .i64 a]
/-- A token of one's own in a block. -/
def Tk4 (w : World) (b : Nat) (k : Int) (t : ByteArray) (n a : Int) : Prop := w.heap[b]? = some (.cells #[.int .i64 k, .string t, .int .i64 n, .int .i64 a] 39 (0, 0))
theorem Tk4.later {w w' : World} {b : Nat} {k : Int} {t : ByteArray} {n a : Int} (h : Tk4 w b k t n a) (hb : Below w.heap.size w w') : Tk4 w' b k t n a :=
  (hb.block b (Array.getElem?_eq_some_iff.1 h).1).trans h
theorem Tk4.free {w : World} {b : Nat} {k : Int} {t : ByteArray} {n a : Int} (h : Tk4 w b k t n a) (j : Nat) : w.frozen? ⟨b, j, none⟩ = false := Joins.unfrozen_of_block h j
theorem Tk4.at {w : World} {b : Nat} {k : Int} {t : ByteArray} {n a : Int} (h : Tk4 w b k t n a) :
    w.cell? ⟨b, 0, none⟩ = some (.int .i64 k) ∧ w.cell? ⟨b, 1, none⟩ = some (.string t) ∧ w.cell? ⟨b, 2, none⟩ = some (.int .i64 n) ∧ w.cell? ⟨b, 3, none⟩ = some (.int .i64 a) :=
  ⟨by rw [Joins.cell_of_block h]; rfl, by rw [Joins.cell_of_block h]; rfl, by rw [Joins.cell_of_block h]; rfl, by rw [Joins.cell_of_block h]; rfl⟩
theorem Tk4.fresh (w : World) (k : Int) (t : ByteArray) (n a : Int) : Tk4 (w.alloc (Obj.cells #[.int .i64 k, .string t, .int .i64 n, .int .i64 a] 39)) w.heap.size k t n a := heap_alloc_new w _

theorem far1 {w w' : World} {o : Obj} (h : Below (w.alloc o).heap.size (w.alloc o) w') : Below w.heap.size w w' := (Joins.below_alloc1 w o).trans (Joins.below_le h (by simp))

theorem clone_any (s : ByteArray) (w : World) (hs : s.size ≤ 281474976710656) :
    Calls Tryd.prog 73 #[.string s] w fun e w' => e = .returned (.string s) ∧ Below w.heap.size w w' := by
  have Q := Tryd.stringslite_Clone s w hs
  go_enter Tryd.func73, Tryd.ntmps73
  go_wp2_with (go_at_call 81; refine Q.mono ?_; rintro e w1 ⟨rfl, B1⟩)
  go_ret
  exact ⟨rfl, B1⟩

set_option maxHeartbeats 1000000 in
theorem worded_long (k a : Int) (t : ByteArray) (w : World) (h : 32 < t.size) :
    Calls Tryd.prog 62 #[.int .i64 k, .string t, .int .i64 a] w fun e w' => e = .returned (.tuple #[tokV 0 ⟨#[]⟩ 0 0, .int .i64 0, .int .i64 21]) ∧ Below w.heap.size w w' := by
  have h' : (32 : Int) < t.size := by omega
  go_enter Tryd.func62, Tryd.ntmps62
  go_wp2
  refine bodyPost_ret (v := .tuple #[tokV 0 ⟨#[]⟩ 0 0, .int .i64 0, .int .i64 21]) (by simp [results, Tryd.results62, go_sem, tokV]) rfl ⟨rfl, ?_⟩
  go_grown

set_option maxHeartbeats 1000000 in
theorem worded_ok (k : Int) (a : Nat) (t : ByteArray) (w : World) (h : t.size ≤ 32) (ha : (a : Int) ≤ 9223372036854775000) :
    Calls Tryd.prog 62 #[.int .i64 k, .string t, .int .i64 a] w fun e w' => e = .returned (.tuple #[tokV k t 0 a, .int .i64 ((a + t.size : Nat) : Int), .int .i64 0]) ∧ Below w.heap.size w w' := by
  have h' : ¬ (32 : Int) < t.size := by omega
  have Q := fun w => clone_any t w (by omega)
  have G := Tk4.fresh w 0 ⟨#[]⟩ 0 0
  go_enter Tryd.func62, Tryd.ntmps62
  go_wp2_with (go_at_call 73; refine (Q _).mono ?_; rintro e w1 ⟨rfl, B1⟩; have G1 := G.later B1; have f0 := G1.free 0; have f1 := G1.free 1; have f2 := G1.free 2; have f3 := G1.free 3; obtain ⟨y0, y1, y2, y3⟩ := G1.at)
  refine bodyPost_ret (v := .tuple #[tokV k t 0 a, .int .i64 ((a + t.size : Nat) : Int), .int .i64 0]) (by simp [results, Tryd.results62, go_sem, tokV, y0, y1, y2, y3]) rfl ⟨rfl, ?_⟩
  exact ((((far1 B1).setCell (by simp) _).setCell (by simp) _).setCell (by simp) _).setCell (by simp) _

/-- What reading a token answers. -/
def readV (r : Except Int Tk) (a : Nat) : Value :=
  match r with
  | .ok t => .tuple #[tokV t.kind (str t.text) t.num a, .int .i64 ((a + t.len : Nat) : Int), .int .i64 0]
  | .error e => .tuple #[tokV 0 ⟨#[]⟩ 0 0, .int .i64 0, .int .i64 e]
def wordR (k : Int) (t : List UInt8) : Except Int Tk := if 32 < t.length then .error 21 else .ok ⟨k, t, 0, t.length⟩
def numR (t : List UInt8) : Except Int Tk := match numOf t with
  | some v => .ok ⟨4, [], v, t.length⟩
  | none => .error 22

theorem size_list (t : ByteArray) : t.data.toList.length = t.size := by simp

theorem worded_any (k : Int) (a : Nat) (t : ByteArray) (ha : (a : Int) ≤ 9223372036854775000) : ∃ (K : Int) (T : ByteArray) (A E1 E2 : Int),
    Hid (Value.tuple #[tokV K T 0 A, .int .i64 E1, .int .i64 E2] = readV (wordR k t.data.toList) a) ∧
    ∀ w, Calls Tryd.prog 62 #[.int .i64 k, .string t, .int .i64 a] w fun e w' => e = .returned (.tuple #[tokV K T 0 A, .int .i64 E1, .int .i64 E2]) ∧ Below w.heap.size w w' := by
  by_cases h : 32 < t.size
  · exact ⟨0, ⟨#[]⟩, 0, 0, 21, ⟨by rw [wordR, if_pos (by rw [size_list]; exact h)]; rfl⟩, fun w => worded_long k a t w h⟩
  · refine ⟨k, t, a, ((a + t.size : Nat) : Int), 0, ⟨?_⟩, fun w => worded_ok k a t w (by omega) ha⟩
    rw [wordR, if_neg (by rw [size_list]; exact h), readV, ← str_eq (s := t) rfl, size_list]

set_option maxHeartbeats 1000000 in
theorem numbered_ok (a : Nat) (t : ByteArray) (v : Int) (w : World) (h : Lib.parseIntB 64 t.data.toList = .ok v) (ht : t.size ≤ 281474976710656) (ha : (a : Int) ≤ 281474976710656) :
    Calls Tryd.prog 66 #[.string t, .int .i64 a] w fun e w' => e = .returned (.tuple #[tokV 4 ⟨#[]⟩ v a, .int .i64 ((a + t.size : Nat) : Int), .int .i64 0]) ∧ Below w.heap.size w w' := by
  have Q : ∀ w, Calls Tryd.prog 74 #[.string t, .int .i64 10, .int .i64 64] w fun e w' => e = .returned (.tuple #[.int .i64 v, .nilIface]) ∧ Below w.heap.size w w' := fun w =>
    (Tryd.strconv_ParseInt_10_at64_ok t (by omega) v h w).mono fun e w' ⟨he, hw⟩ => ⟨he, by
      rcases hw with rfl | ⟨u, rfl⟩
      · exact Below.refl _ _
      · exact Joins.below_bytesWorld _ _ _ _ (Nat.le_refl _)⟩
  clear h
  have G := Tk4.fresh w 0 ⟨#[]⟩ 0 0
  go_enter Tryd.func66, Tryd.ntmps66
  go_wp2_with (go_at_call 74; refine (Q _).mono ?_; rintro e w1 ⟨rfl, B1⟩; have G1 := G.later B1; have f0 := G1.free 0; have f1 := G1.free 1; have f2 := G1.free 2; have f3 := G1.free 3; obtain ⟨y0, y1, y2, y3⟩ := G1.at)
  refine bodyPost_ret (v := .tuple #[tokV 4 ⟨#[]⟩ v a, .int .i64 ((a + t.size : Nat) : Int), .int .i64 0]) (by simp [results, Tryd.results66, go_sem, tokV, y0, y1, y2, y3]) rfl ⟨rfl, ?_⟩
  exact ((((far1 B1).setCell (by simp) _).setCell (by simp) _).setCell (by simp) _).setCell (by simp) _

set_option maxHeartbeats 1000000 in
theorem numbered_bad (a : Nat) (t : ByteArray) (w : World) (L : Laid w) (h : Lib.parseIntB 64 t.data.toList = .range) (ht : t.size ≤ 281474976710656) :
    Calls Tryd.prog 66 #[.string t, .int .i64 a] w fun e w' => e = .returned (.tuple #[tokV 0 ⟨#[]⟩ 0 0, .int .i64 0, .int .i64 22]) ∧ Below w.heap.size w w' := by
  have Q : ∀ w, Laid w → Calls Tryd.prog 74 #[.string t, .int .i64 10, .int .i64 64] w fun e w' => ∃ x n, e = .returned (.tuple #[.int .i64 x, .iface 119 (.pointer (some ⟨n, 0, none⟩))]) ∧ Below w.heap.size w w' := fun w L => by
    obtain ⟨te, pe, hc⟩ := L.rng
    exact (Tryd.strconv_ParseInt_10_at64_range t ht h _ w hc (.inr ⟨te, pe, rfl⟩)).mono fun e w' ⟨n, he, _, _, hb⟩ => ⟨_, n, he, hb⟩
  clear h
  have G := Tk4.fresh w 0 ⟨#[]⟩ 0 0
  have L1 := L.later (Joins.below_alloc1 w (Obj.cells #[.int .i64 0, .string ⟨#[]⟩, .int .i64 0, .int .i64 0] 39))
  go_enter Tryd.func66, Tryd.ntmps66
  go_wp2_with (go_at_call 74; refine (Q _ L1).mono ?_; rintro e w1 ⟨x, n, rfl, B1⟩; have G1 := G.later B1; have f0 := G1.free 0; have f1 := G1.free 1; have f2 := G1.free 2; have f3 := G1.free 3; obtain ⟨y0, y1, y2, y3⟩ := G1.at)
  refine bodyPost_ret (v := .tuple #[tokV 0 ⟨#[]⟩ 0 0, .int .i64 0, .int .i64 22]) (by simp [results, Tryd.results66, go_sem, tokV, y0, y1, y2, y3]) rfl ⟨rfl, ?_⟩
  exact ((((far1 B1).setCell (by simp) _).setCell (by simp) _).setCell (by simp) _).setCell (by simp) _

theorem numbered_any (a : Nat) (t : ByteArray) (hn : (∃ v, Lib.parseIntB 64 t.data.toList = .ok v) ∨ Lib.parseIntB 64 t.data.toList = .range) (ht : t.size ≤ 281474976710656) (ha : (a : Int) ≤ 281474976710656) : ∃ (K v A E1 E2 : Int),
    Hid (Value.tuple #[tokV K ⟨#[]⟩ v A, .int .i64 E1, .int .i64 E2] = readV (numR t.data.toList) a) ∧
    ∀ w, Laid w → Calls Tryd.prog 66 #[.string t, .int .i64 a] w fun e w' => e = .returned (.tuple #[tokV K ⟨#[]⟩ v A, .int .i64 E1, .int .i64 E2]) ∧ Below w.heap.size w w' := by
  rcases hn with ⟨v, e⟩ | e
  · exact ⟨4, v, a, ((a + t.size : Nat) : Int), 0, ⟨by rw [numR, numOf, e]; simp only [readV, size_list]; rfl⟩, fun w _ => numbered_ok a t v w e ht ha⟩
  · exact ⟨0, 0, 0, 0, 22, ⟨by rw [numR, numOf, e]; rfl⟩, fun w L => numbered_bad a t w L e ht⟩

theorem smallKind_any (t : ByteArray) (w : World) : Calls Tryd.prog 63 #[.string t] w fun e w' => e = .returned (.int .i64 (if resv t.data.toList then 6 else 1)) ∧ w' = w := by
  rw [← ByteArray.toList_eq]
  by_cases h0 : t.toList = [108, 101, 116]
  · rw [show (if resv t.toList then (6 : Int) else 1) = 6 by rw [h0]; rfl]
    go_enter Tryd.func63, Tryd.ntmps63
    go_wp2
    go_ret
    exact ⟨rfl, rfl⟩
  by_cases h1 : t.toList = [105, 110]
  · rw [show (if resv t.toList then (6 : Int) else 1) = 6 by rw [h1]; rfl]
    go_enter Tryd.func63, Tryd.ntmps63
    go_wp2
    go_ret
    exact ⟨rfl, rfl⟩
  by_cases h2 : t.toList = [99, 97, 115, 101]
  · rw [show (if resv t.toList then (6 : Int) else 1) = 6 by rw [h2]; rfl]
    go_enter Tryd.func63, Tryd.ntmps63
    go_wp2
    go_ret
    exact ⟨rfl, rfl⟩
  by_cases h3 : t.toList = [111, 102]
  · rw [show (if resv t.toList then (6 : Int) else 1) = 6 by rw [h3]; rfl]
    go_enter Tryd.func63, Tryd.ntmps63
    go_wp2
    go_ret
    exact ⟨rfl, rfl⟩
  by_cases h4 : t.toList = [100, 97, 116, 97]
  · rw [show (if resv t.toList then (6 : Int) else 1) = 6 by rw [h4]; rfl]
    go_enter Tryd.func63, Tryd.ntmps63
    go_wp2
    go_ret
    exact ⟨rfl, rfl⟩
  rw [show (if resv t.toList then (6 : Int) else 1) = 1 by simp [resv, h0, h1, h2, h3, h4]]
  have z0 : (t.toList == [108, 101, 116]) = false := by simp [h0]
  have z1 : (t.toList == [105, 110]) = false := by simp [h1]
  have z2 : (t.toList == [99, 97, 115, 101]) = false := by simp [h2]
  have z3 : (t.toList == [111, 102]) = false := by simp [h3]
  have z4 : (t.toList == [100, 97, 116, 97]) = false := by simp [h4]
  clear h0 h1 h2 h3 h4
  go_enter Tryd.func63, Tryd.ntmps63
  go_wp2
  go_ret
  exact ⟨rfl, rfl⟩

end Go.Proofs.YtoedeedoecdajaaDoor
