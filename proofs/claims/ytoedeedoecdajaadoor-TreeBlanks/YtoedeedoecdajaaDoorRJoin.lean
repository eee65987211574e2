/- The document's own Join, and what it leans on. -/
import Derived.Test.YtoedeedoecdajaaDoorRefScan
import Derived.Test.YtoedeedoecdajaaDoorBack
import Derived.Deep.AppendLies
import Derived.Deep.RegionHeld3
import Derived.Laws.Concat
import Derived.Laws.IdiomStrings
import Derived.Lib.AppendStr
namespace Go.Proofs.YtoedeedoecdajaaDoor
open Go.RowKit
set_option linter.unusedVariables false
set_option linter.unusedSimpArgs false

def In64 (a : Int) : Prop := -9223372036854775808 ≤ a ∧ a ≤ 9223372036854775807
def LiesA (w : World) (g off : Nat) (ts : List ATok) : Prop := ∀ (i : Nat) (h : i < ts.length),
  w.cell? ⟨g, off + i * 4, none⟩ = some (.int .i64 (ts[i]'h).kind) ∧ w.cell? ⟨g, off + i * 4 + 1, none⟩ = some (.string (str (ts[i]'h).text)) ∧
  w.cell? ⟨g, off + i * 4 + 2, none⟩ = some (.int .i64 (ts[i]'h).num) ∧ w.cell? ⟨g, off + i * 4 + 3, none⟩ = some (.int .i64 (ts[i]'h).at')
def Fit (t : ATok) : Prop := In64 t.kind ∧ In64 t.num ∧ t.text.length ≤ 140737488351232
/-- What the walk is told of a slice of tokens that came in. -/
def IsToks (w : World) (a : Option Addr) (ts : List ATok) : Prop := (0 < ts.length → ∃ g off, a = some ⟨g, off, none⟩ ∧ LiesA w g off ts) ∧ ∀ t ∈ ts, Fit t
theorem LiesA.later {w w' : World} {g off : Nat} {ts : List ATok} (h : LiesA w g off ts) (hb : Below w.heap.size w w') : LiesA w' g off ts := fun i hi => by
  obtain ⟨a, b, c, d⟩ := h i hi
  exact ⟨(hb.cell (World.block_lt_of_cell? _ _ a)).trans a, (hb.cell (World.block_lt_of_cell? _ _ b)).trans b, (hb.cell (World.block_lt_of_cell? _ _ c)).trans c, (hb.cell (World.block_lt_of_cell? _ _ d)).trans d⟩
theorem IsToks.later {w w' : World} {a : Option Addr} {ts : List ATok} (h : IsToks w a ts) (hb : Below w.heap.size w w') : IsToks w' a ts :=
  ⟨fun q => by obtain ⟨g, off, e, l⟩ := h.1 q; exact ⟨g, off, e, l.later hb⟩, h.2⟩

theorem add_add (B O i j : Nat) : ((⟨B, O, none⟩ : Addr).add i).add j = ⟨B, O + i + j, none⟩ := by
  unfold Addr.add
  split <;> split <;> simp_all
def atokV (t : ATok) : Value := .agg #[.int .i64 t.kind, .string (str t.text), .int .i64 t.num, .int .i64 t.at']
def joinS : Except Int (List UInt8) → List UInt8
  | .ok l => l
  | .error _ => []
def joinE : Except Int (List UInt8) → Int
  | .ok _ => 0
  | .error e => e
theorem join_snoc (ts : List ATok) (k : Nat) (h : k < ts.length) : joinL (ts.take (k + 1)) = joinL (ts.take k) ++ writ (ts[k]'h) ++ [32] := by
  unfold joinL
  rw [List.take_succ_eq_append_getElem h, List.flatMap_append]
  simp
theorem join_le (ts : List ATok) (k : Nat) : (joinL (ts.take k)).length ≤ (joinL ts).length := by
  have : joinL ts = joinL (ts.take k) ++ joinL (ts.drop k) := by
    unfold joinL
    rw [← List.flatMap_append, List.take_append_drop]
  rw [this, List.length_append]
  omega
theorem join_bad {ts : List ATok} {k : Nat} (h : k < ts.length) (hb : okT (ts[k]'h) = false) : joinR ts = .error 2 := by
  unfold joinR
  rw [if_neg]
  intro q
  have := List.all_eq_true.1 q _ (List.getElem_mem h)
  rw [hb] at this
  cases this
theorem all_of {ts : List ATok} (h : ∀ i (hi : i < ts.length), okT (ts[i]'hi) = true) : ts.all okT = true :=
  List.all_eq_true.2 fun t ht => by
    obtain ⟨i, hi, rfl⟩ := List.mem_iff_getElem.1 ht
    exact h i hi
theorem tok_at {w wr : World} {ga : Option Addr} {ts : List ATok} (T : IsToks w ga ts) (BR : Below w.heap.size w wr) (k : Nat) (hk : k < ts.length) :
    ∃ g off, ga = some ⟨g, off, none⟩ ∧ wr.cell? ⟨g, off + k * 4, none⟩ = some (.int .i64 (ts[k]'hk).kind) ∧ wr.cell? ⟨g, off + k * 4 + 1, none⟩ = some (.string (str (ts[k]'hk).text)) ∧
      wr.cell? ⟨g, off + k * 4 + 2, none⟩ = some (.int .i64 (ts[k]'hk).num) ∧ wr.cell? ⟨g, off + k * 4 + 3, none⟩ = some (.int .i64 (ts[k]'hk).at') := by
  obtain ⟨g, off, e, l⟩ := T.1 (by omega)
  exact ⟨g, off, e, (l.later BR) k hk⟩

set_option maxRecDepth 100000 in


theorem str_app (a b : List UInt8) : str a ++ str b = str (a ++ b) := ByteArray.mk_append_mk a b
theorem one_byte (wr : World) (d : Nat) (h : d ≤ 9) : (convert 68 9 (.slice (some ⟨wr.heap.size, 0, none⟩) 1 1)).run Tryd.prog (wr.alloc (Obj.cells #[Value.int .u8 (48 + (d : Int))] 5)) = .ok (.string (str [UInt8.ofNat (48 + d)])) (wr.alloc (Obj.cells #[Value.int .u8 (48 + (d : Int))] 5)) := by
  have e : (48 + (d : Int)) = ((UInt8.ofNat (48 + d)).toNat : Int) := by simp; omega
  have q := run_convert_bytes_back (P := Tryd.prog) (wr.alloc (Obj.cells #[Value.int .u8 (48 + (d : Int))] 5)) 68 9 5 ⟨wr.heap.size, 0, none⟩ 1 [UInt8.ofNat (48 + d)] Tryd.underlying68 Tryd.underlying5 Tryd.underlying9
  rw [e] at q ⊢
  refine q (fun j hj => ?_)
  have : j = 0 := by simpa using hj
  subst this
  have e2 : (⟨wr.heap.size, 0, none⟩ : Addr).add 0 = ⟨wr.heap.size, 0, none⟩ := by unfold Addr.add; simp
  rw [e2, Joins.cell_of_block (heap_alloc_new _ _)]
  rfl

set_option maxRecDepth 100000 in
set_option maxHeartbeats 2000000 in
theorem digits_pos (n : Nat) (h0 : True) (h1 : n ≤ 9223372036854775807) (w : World) :
    Calls Tryd.prog 47 #[.int .i64 ((n : Int))] w fun e w' => e = .returned (.string (str (Lib.decDigits n))) ∧ Below w.heap.size w w' := by
  have hlen : (Lib.decDigits n).length ≤ 20 := by rw [Lib.decDigits_length]; exact Lib.nDigits_le20 n (by omega)
  have HL : Hid ((Lib.decDigits n).length ≤ 20) := ⟨hlen⟩
  clear hlen
  go_enter Tryd.func47, Tryd.ntmps47
  go_wp2
  go_loopw [3, 4] (fun sv mv wr => ∃ (x : List UInt8) (u : Nat), sv = .string (str x) ∧ mv = .int .i64 ((u : Int)) ∧ u ≤ 9223372036854775807 ∧ Hid (Lib.decDigits n = Lib.decDigits u ++ x) ∧ Below w.heap.size w wr) (fun _ mv _ => (intOf mv).natAbs)
  case atStart => exact ⟨[], n, rfl, rfl, h1, ⟨by simp⟩, Below.refl _ _⟩
  case round =>
    obtain ⟨x, u, rfl, rfl, hu, HD, BR⟩ := hrel
    have hx : x.length ≤ 20 := by have := HL.out; rw [HD.out, List.length_append] at this; omega
    have hm : u % 10 < 10 := Nat.mod_lt _ (by decide)
    obtain ⟨d, hd⟩ : ∃ d : Nat, u % 10 = d := ⟨_, rfl⟩
    have hC : (convert 68 9 (.slice (some ⟨wr.heap.size, 0, none⟩) 1 1)).run Tryd.prog (wr.alloc (Obj.cells #[Value.int .u8 (48 + (d : Int))] 5)) = .ok (.string (str [UInt8.ofNat (48 + d)])) (wr.alloc (Obj.cells #[Value.int .u8 (48 + (d : Int))] 5)) :=
      one_byte wr d (by omega)
    have hS : ∀ w', (Op.stringOp .add (str [UInt8.ofNat (48 + d)]) (str x)).run Tryd.prog w' = .ok (.string (str (UInt8.ofNat (48 + d) :: x))) w' := fun w' => by
      rw [run_string_add_sum w' _ _ (by rw [str_size, str_size]; simp; omega), str_app]; rfl
    have hdi : (u : Int) % 10 = d := by omega
    obtain ⟨c, hc⟩ : ∃ c, UInt8.ofNat (48 + d) = c := ⟨_, rfl⟩
    have HC : Hid (UInt8.ofNat (48 + d) = c) := ⟨hc⟩
    rw [hc] at hC
    rw [hc] at hS
    clear hc
    by_cases hz : u / 10 = 0
    · have HE : Hid (Lib.decDigits n = c :: x) := ⟨by rw [HD.out, Lib.decDigits, dif_pos (by omega), show u = d by omega, HC.out]; rfl⟩
      have hq : (u : Int) / 10 = 0 := by omega
      clear HD hm hd
      go_wp2
      go_ret
      exact ⟨by rw [HE.out]; rfl, BR.alloc BR.size _⟩
    · have HE : Hid (Lib.decDigits n = Lib.decDigits (u / 10) ++ (c :: x)) := ⟨by rw [HD.out, Lib.decDigits, dif_neg (by omega), hd, List.append_assoc, HC.out]; rfl⟩
      have hq : ((u : Int) / 10 == 0) = false := by simp; omega
      obtain ⟨v, hv⟩ : ∃ v, u / 10 = v := ⟨_, rfl⟩
      clear HD hm hd
      go_wp2
      go_roundw
      case rel => exact ⟨c :: x, u / 10, rfl, by simp, by omega, HE, BR.alloc BR.size _⟩
      case measure => simp [intOf]; omega

set_option maxRecDepth 100000 in
set_option maxHeartbeats 2000000 in
theorem digits_neg (n : Nat) (h0 : 1 ≤ n) (h1 : n ≤ 9223372036854775808) (w : World) :
    Calls Tryd.prog 47 #[.int .i64 (-(n : Int))] w fun e w' => e = .returned (.string (str (45 :: Lib.decDigits n))) ∧ Below w.heap.size w w' := by
  have hlen : (Lib.decDigits n).length ≤ 20 := by rw [Lib.decDigits_length]; exact Lib.nDigits_le20 n (by omega)
  have HL : Hid ((Lib.decDigits n).length ≤ 20) := ⟨hlen⟩
  clear hlen
  go_enter Tryd.func47, Tryd.ntmps47
  go_wp2
  go_loopw [3, 4] (fun sv mv wr => ∃ (x : List UInt8) (u : Nat), sv = .string (str x) ∧ mv = .int .i64 (-(u : Int)) ∧ u ≤ 9223372036854775808 ∧ Hid (Lib.decDigits n = Lib.decDigits u ++ x) ∧ Below w.heap.size w wr) (fun _ mv _ => (intOf mv).natAbs)
  case atStart => exact ⟨[], n, rfl, rfl, h1, ⟨by simp⟩, Below.refl _ _⟩
  case round =>
    obtain ⟨x, u, rfl, rfl, hu, HD, BR⟩ := hrel
    have hx : x.length ≤ 20 := by have := HL.out; rw [HD.out, List.length_append] at this; omega
    have hm : u % 10 < 10 := Nat.mod_lt _ (by decide)
    obtain ⟨d, hd⟩ : ∃ d : Nat, u % 10 = d := ⟨_, rfl⟩
    have hC := one_byte wr d (by omega)
    have hS : ∀ w', (Op.stringOp .add (str [UInt8.ofNat (48 + d)]) (str x)).run Tryd.prog w' = .ok (.string (str (UInt8.ofNat (48 + d) :: x))) w' := fun w' => by
      rw [run_string_add_sum w' _ _ (by rw [str_size, str_size]; simp; omega), str_app]; rfl
    have hS2 : ∀ w', (Op.stringOp .add ⟨#[45]⟩ (str (UInt8.ofNat (48 + d) :: x))).run Tryd.prog w' = .ok (.string (str (45 :: UInt8.ofNat (48 + d) :: x))) w' := fun w' => by
      rw [show (ByteArray.mk #[45]) = str [45] from rfl, run_string_add_sum w' _ _ (by rw [str_size, str_size]; simp; omega), str_app]; rfl
    have hdi : (u : Int) % 10 = d := by omega
    obtain ⟨c, hc⟩ : ∃ c, UInt8.ofNat (48 + d) = c := ⟨_, rfl⟩
    have HC : Hid (UInt8.ofNat (48 + d) = c) := ⟨hc⟩
    rw [hc] at hC
    rw [hc] at hS
    rw [hc] at hS2
    clear hc
    have hq : (u : Int) / 10 = (u / 10 : Nat) := by omega
    by_cases hz : u / 10 = 0
    · have HE : Hid (Lib.decDigits n = c :: x) := ⟨by rw [HD.out, Lib.decDigits, dif_pos (by omega), show u = d by omega, HC.out]; rfl⟩
      have hq : (u : Int) / 10 = 0 := by omega
      rcases Nat.eq_zero_or_pos d with h | h
      · subst h
        rw [show (48 + ((0 : Nat) : Int)) = 48 from rfl] at hC
        have hdi' : (u : Int) % 10 = 0 := hdi
        clear HD hm hd hdi
        go_wp2
        go_ret
        exact ⟨by rw [HE.out]; rfl, BR.alloc BR.size _⟩
      · clear HD hm hd
        go_wp2
        go_ret
        exact ⟨by rw [HE.out]; rfl, BR.alloc BR.size _⟩
    · have HE : Hid (Lib.decDigits n = Lib.decDigits (u / 10) ++ (c :: x)) := ⟨by rw [HD.out, Lib.decDigits, dif_neg (by omega), hd, List.append_assoc, HC.out]; rfl⟩
      have hq2 : (-((u : Int) / 10) == 0) = false := by rw [beq_eq_false_iff_ne]; omega
      clear hS2 hq
      rcases Nat.eq_zero_or_pos d with h | h
      · subst h
        rw [show (48 + ((0 : Nat) : Int)) = 48 from rfl] at hC
        have hdi' : (u : Int) % 10 = 0 := hdi
        clear HD hm hd hdi
        go_wp2
        go_roundw
        case rel => exact ⟨c :: x, u / 10, rfl, by simp, by omega, HE, BR.alloc BR.size _⟩
        case measure => simp [intOf]; omega
      · clear HD hm hd
        go_wp2
        go_roundw
        case rel => exact ⟨c :: x, u / 10, rfl, by simp, by omega, HE, BR.alloc BR.size _⟩
        case measure => simp [intOf]; omega

theorem digits_any (n : Int) (h0 : -9223372036854775808 ≤ n) (h1 : n ≤ 9223372036854775807) (w : World) :
    Calls Tryd.prog 47 #[.int .i64 n] w fun e w' => e = .returned (.string (str (Lib.itoa n))) ∧ Below w.heap.size w w' := by
  unfold Lib.itoa
  by_cases h : n < 0
  · obtain ⟨m, rfl⟩ : ∃ m : Nat, n = -(m : Int) := ⟨n.natAbs, by omega⟩
    rw [if_pos h, show (-(m : Int)).natAbs = m by omega]
    exact digits_neg m (by omega) (by omega) w
  · obtain ⟨m, rfl⟩ : ∃ m : Nat, n = (m : Int) := ⟨n.toNat, by omega⟩
    rw [if_neg h, Int.toNat_natCast]
    exact digits_pos m trivial (by omega) w



set_option maxRecDepth 100000 in
set_option maxHeartbeats 2000000 in
theorem text_1 (x : List UInt8) (n a : Int) (hx : x.length ≤ 140737488351232) (w : World) :
    Calls Tryd.prog 27 #[.agg #[.int .i64 1, .string (str x), .int .i64 n, .int .i64 a]] w fun e w' => e = .returned (.tuple #[.string (str x), .bool (wordB x 1)]) ∧ Below w.heap.size w w' := by
  have G := Tk4.fresh w 1 (str x) n a
  have Q := fun w => rword_any (str x) (by rw [str_size]; omega) 1 w
  rw [str_list] at Q
  generalize wordB x 1 = b at Q
  have B0 := Joins.below_alloc1 w (Obj.cells #[Value.int .i64 1, .string (str x), .int .i64 n, .int .i64 a] 39)
  go_enter Tryd.func27, Tryd.ntmps27
  go_wp2_with fail
  generalize w.alloc (Obj.cells #[Value.int .i64 1, .string (str x), .int .i64 n, .int .i64 a] 39) = W at *
  obtain ⟨y0, y1, _, _⟩ := G.at
  go_region_held3 (fun w' => w'.cell? ⟨w.heap.size, 0, none⟩ = some (.int .i64 1) ∧ w'.cell? ⟨w.heap.size, 1, none⟩ = some (.string (str x))) (go_keep) (first
    | (go_at_call 14; refine (Q _).mono ?_; rintro e w7 ⟨rfl, B7⟩; have B8 : Below W.heap.size W w7 := (Below.drew (Below.refl _ W)).trans B7; obtain ⟨q0, q1, _, _⟩ := (G.later B8).at))
  all_goals go_wp2
  all_goals go_ret2
  all_goals exact ⟨rfl, B0.trans (Joins.below_le B8 B0.size)⟩

set_option maxRecDepth 100000 in
set_option maxHeartbeats 2000000 in
theorem text_2 (x : List UInt8) (n a : Int) (hx : x.length ≤ 140737488351232) (w : World) :
    Calls Tryd.prog 27 #[.agg #[.int .i64 2, .string (str x), .int .i64 n, .int .i64 a]] w fun e w' => e = .returned (.tuple #[.string (str x), .bool (wordB x 2)]) ∧ Below w.heap.size w w' := by
  have G := Tk4.fresh w 2 (str x) n a
  have Q := fun w => rword_any (str x) (by rw [str_size]; omega) 2 w
  rw [str_list] at Q
  generalize wordB x 2 = b at Q
  have B0 := Joins.below_alloc1 w (Obj.cells #[Value.int .i64 2, .string (str x), .int .i64 n, .int .i64 a] 39)
  go_enter Tryd.func27, Tryd.ntmps27
  go_wp2_with fail
  generalize w.alloc (Obj.cells #[Value.int .i64 2, .string (str x), .int .i64 n, .int .i64 a] 39) = W at *
  obtain ⟨y0, y1, _, _⟩ := G.at
  go_region_held3 (fun w' => w'.cell? ⟨w.heap.size, 0, none⟩ = some (.int .i64 2) ∧ w'.cell? ⟨w.heap.size, 1, none⟩ = some (.string (str x))) (go_keep) (first
    | (go_at_call 14; refine (Q _).mono ?_; rintro e w7 ⟨rfl, B7⟩; have B8 : Below W.heap.size W w7 := (Below.drew (Below.refl _ W)).trans B7; obtain ⟨q0, q1, _, _⟩ := (G.later B8).at))
  all_goals go_wp2
  all_goals go_ret2
  all_goals exact ⟨rfl, B0.trans (Joins.below_le B8 B0.size)⟩

set_option maxRecDepth 100000 in
set_option maxHeartbeats 2000000 in
theorem text_3 (x : List UInt8) (n a : Int) (hx : x.length ≤ 140737488351232) (w : World) :
    Calls Tryd.prog 27 #[.agg #[.int .i64 3, .string (str x), .int .i64 n, .int .i64 a]] w fun e w' => e = .returned (.tuple #[.string (str x), .bool (wordB x 3)]) ∧ Below w.heap.size w w' := by
  have G := Tk4.fresh w 3 (str x) n a
  have Q := fun w => rword_any (str x) (by rw [str_size]; omega) 3 w
  rw [str_list] at Q
  generalize wordB x 3 = b at Q
  have B0 := Joins.below_alloc1 w (Obj.cells #[Value.int .i64 3, .string (str x), .int .i64 n, .int .i64 a] 39)
  go_enter Tryd.func27, Tryd.ntmps27
  go_wp2_with fail
  generalize w.alloc (Obj.cells #[Value.int .i64 3, .string (str x), .int .i64 n, .int .i64 a] 39) = W at *
  obtain ⟨y0, y1, _, _⟩ := G.at
  go_region_held3 (fun w' => w'.cell? ⟨w.heap.size, 0, none⟩ = some (.int .i64 3) ∧ w'.cell? ⟨w.heap.size, 1, none⟩ = some (.string (str x))) (go_keep) (first
    | (go_at_call 14; refine (Q _).mono ?_; rintro e w7 ⟨rfl, B7⟩; have B8 : Below W.heap.size W w7 := (Below.drew (Below.refl _ W)).trans B7; obtain ⟨q0, q1, _, _⟩ := (G.later B8).at))
  all_goals go_wp2
  all_goals go_ret2
  all_goals exact ⟨rfl, B0.trans (Joins.below_le B8 B0.size)⟩

set_option maxRecDepth 100000 in
set_option maxHeartbeats 2000000 in
theorem text_6 (x : List UInt8) (n a : Int) (w : World) :
    Calls Tryd.prog 27 #[.agg #[.int .i64 6, .string (str x), .int .i64 n, .int .i64 a]] w fun e w' => e = .returned (.tuple #[.string (str x), .bool (resv x)]) ∧ Below w.heap.size w w' := by
  have G := Tk4.fresh w 6 (str x) n a
  have Q := fun w => reserved_any (str x) w
  rw [str_list] at Q
  generalize resv x = b at Q
  have B0 := Joins.below_alloc1 w (Obj.cells #[Value.int .i64 6, .string (str x), .int .i64 n, .int .i64 a] 39)
  go_enter Tryd.func27, Tryd.ntmps27
  go_wp2_with fail
  generalize w.alloc (Obj.cells #[Value.int .i64 6, .string (str x), .int .i64 n, .int .i64 a] 39) = W at *
  obtain ⟨y0, y1, _, _⟩ := G.at
  go_region_held3 (fun w' => w'.cell? ⟨w.heap.size, 0, none⟩ = some (.int .i64 6) ∧ w'.cell? ⟨w.heap.size, 1, none⟩ = some (.string (str x))) (go_keep) (first
    | (go_at_call 42; refine (Q _).mono ?_; rintro e w7 ⟨rfl, hw⟩; subst w7))
  all_goals go_wp2
  all_goals go_ret2
  all_goals exact ⟨rfl, by first | exact B0.drew | exact B0⟩

set_option maxRecDepth 100000 in
set_option maxHeartbeats 2000000 in
theorem text_5 (x : List UInt8) (n a : Int) (w : World) :
    Calls Tryd.prog 27 #[.agg #[.int .i64 5, .string (str x), .int .i64 n, .int .i64 a]] w fun e w' => e = .returned (.tuple #[.string (str x), .bool (signB x)]) ∧ Below w.heap.size w w' := by
  have G := Tk4.fresh w 5 (str x) n a
  have Q := fun w => sign_any (str x) w
  rw [str_list] at Q
  generalize signB x = b at Q
  have B0 := Joins.below_alloc1 w (Obj.cells #[Value.int .i64 5, .string (str x), .int .i64 n, .int .i64 a] 39)
  go_enter Tryd.func27, Tryd.ntmps27
  go_wp2_with fail
  generalize w.alloc (Obj.cells #[Value.int .i64 5, .string (str x), .int .i64 n, .int .i64 a] 39) = W at *
  obtain ⟨y0, y1, _, _⟩ := G.at
  go_region_held3 (fun w' => w'.cell? ⟨w.heap.size, 0, none⟩ = some (.int .i64 5) ∧ w'.cell? ⟨w.heap.size, 1, none⟩ = some (.string (str x))) (go_keep) (first
    | (go_at_call 46; refine (Q _).mono ?_; rintro e w7 ⟨rfl, hw⟩; subst w7))
  all_goals go_wp2
  all_goals go_ret2
  all_goals exact ⟨rfl, by first | exact B0.drew | exact B0⟩

set_option maxRecDepth 100000 in
theorem text_4 (x : List UInt8) (n a : Int) (hn : In64 n) (w : World) :
    Calls Tryd.prog 27 #[.agg #[.int .i64 4, .string (str x), .int .i64 n, .int .i64 a]] w fun e w' => e = .returned (.tuple #[.string (str (Lib.itoa n)), .bool true]) ∧ Below w.heap.size w w' := by
  have Q := fun w => digits_any n hn.1 hn.2 w
  go_enter Tryd.func27, Tryd.ntmps27
  go_wp2_with (go_at_call 47; refine (Q _).mono ?_; rintro e w1 ⟨rfl, B1⟩)
  go_ret2
  exact ⟨rfl, far1 B1⟩
set_option maxRecDepth 100000 in
theorem text_none (k : Int) (x : List UInt8) (n a : Int) (hk : ¬ (k = 1 ∨ k = 2 ∨ k = 3 ∨ k = 4 ∨ k = 5 ∨ k = 6)) (w : World) :
    Calls Tryd.prog 27 #[.agg #[.int .i64 k, .string (str x), .int .i64 n, .int .i64 a]] w fun e w' => e = .returned (.tuple #[.string ⟨#[]⟩, .bool false]) ∧ Below w.heap.size w w' := by
  have k1 : (k == 1) = false := by simp; omega
  have k2 : (k == 2) = false := by simp; omega
  have k3 : (k == 3) = false := by simp; omega
  have k4 : (k == 4) = false := by simp; omega
  have k5 : (k == 5) = false := by simp; omega
  have k6 : (k == 6) = false := by simp; omega
  clear hk
  go_enter Tryd.func27, Tryd.ntmps27
  go_wp2
  go_ret2
  exact ⟨rfl, Joins.below_alloc1 _ _⟩
/-- What the document's Text tells: what a token is written as, if it is one. -/
theorem text_any (t : ATok) (ht : Fit t) : ∃ s : ByteArray, Hid (okT t = true → s = str (writ t)) ∧ ∀ w, Calls Tryd.prog 27 #[atokV t] w fun e w' => e = .returned (.tuple #[.string s, .bool (okT t)]) ∧ Below w.heap.size w w' := by
  obtain ⟨k, x, n, a⟩ := t
  obtain ⟨_, hn, hx⟩ := ht
  simp only at hn hx
  unfold atokV
  simp only
  by_cases hk : k = 1 ∨ k = 2 ∨ k = 3 ∨ k = 4 ∨ k = 5 ∨ k = 6
  · rcases hk with rfl | rfl | rfl | rfl | rfl | rfl
    · exact ⟨str x, ⟨fun _ => rfl⟩, fun w => text_1 x n a hx w⟩
    · exact ⟨str x, ⟨fun _ => rfl⟩, fun w => text_2 x n a hx w⟩
    · exact ⟨str x, ⟨fun _ => rfl⟩, fun w => text_3 x n a hx w⟩
    · exact ⟨str (Lib.itoa n), ⟨fun _ => rfl⟩, fun w => text_4 x n a hn w⟩
    · refine ⟨str x, ⟨fun _ => rfl⟩, fun w => ?_⟩
      rw [show okT ⟨5, x, n, a⟩ = signB x by rw [← just_sign]; rfl]
      exact text_5 x n a w
    · refine ⟨str x, ⟨fun _ => rfl⟩, fun w => ?_⟩
      rw [show okT ⟨6, x, n, a⟩ = resv x by rw [← just_resv]; rfl]
      exact text_6 x n a w
  · have he : okT ⟨k, x, n, a⟩ = false := by simp only [not_or] at hk; simp [okT, hk]
    rw [he]
    exact ⟨⟨#[]⟩, ⟨fun q => by cases q⟩, fun w => text_none k x n a hk w⟩


theorem news1 {W : World} {g : Nat} {v : Value} {ty : TypeId} (h : W.heap[g]? = some (.cells #[v] ty (0, 0))) : ∀ j u, [v][j]? = some u → W.cell? ((⟨g, 0, none⟩ : Addr).add j) = some u := World.news_of_block h

theorem info5 : (Tryd.prog.info? 5).map (fun i => (i.zero, i.size, i.bytes)) = some (some (.int .u8 0), 1, 1) := by kernel_rfl
/-- A row of bytes of the call's own. -/
def BRow (w : World) (base : Nat) (v : Value) (l : List UInt8) : Prop := w.ownsRow base 5 1 v l.length (Lib.byteCells l) ∧ v ≠ .slice none 0 0
theorem BRow.later {w w' : World} {base : Nat} {v : Value} {l : List UInt8} (h : BRow w base v l) (hb : Below w.heap.size w w') : BRow w' base v l :=
  ⟨World.ownsRow.kept (row := none) h.1 ⟨hb.os, hb.tape, hb.output, hb.size, fun k hk _ => hb.block k hk⟩ (by cases v.ownBlock <;> simp), h.2⟩
theorem BRow.form {w : World} {base : Nat} {v : Value} {l : List UInt8} (h : BRow w base v l) : ∃ g cap, v = .slice (some ⟨g, 0, none⟩) l.length cap := by
  rcases h.1.2 with ⟨e, _⟩ | ⟨g, cap, _, e, _⟩
  · exact absurd e h.2
  · exact ⟨g, cap, e⟩
theorem BRow.made (w : World) : BRow (w.alloc (.cells #[] 5)) w.heap.size (.slice (some ⟨w.heap.size, 0, none⟩) 0 0) [] :=
  ⟨World.ownsRow_made w #[] 0 (Nat.le_refl _) (Nat.zero_le _) rfl, by simp⟩
theorem BRow.text {w : World} {base : Nat} {g cap : Nat} {l : List UInt8} (h : BRow w base (.slice (some ⟨g, 0, none⟩) l.length cap) l) :
    (convert 68 9 (.slice (some ⟨g, 0, none⟩) l.length cap)).run Tryd.prog w = .ok (.string (str l)) w :=
  run_convert_bytes_back w 68 9 5 ⟨g, 0, none⟩ cap l Tryd.underlying68 Tryd.underlying5 Tryd.underlying9 (fun j hj => by
    have e : (⟨g, 0, none⟩ : Addr).add j = ⟨g, j, none⟩ := by
      have := add_add g 0 0 j
      simpa [Addr.add] using this
    have := h.1.cellAt j (by omega)
    rw [e, this]
    simp [Lib.byteCells, hj])
/-- What an append leaves. -/
theorem brow_more {w W w1 : World} {v v' : Value} {l m : List UInt8} (hB : Below w.heap.size w W) (h : BRow W w.heap.size v l)
    (hown : w1.ownsRow w.heap.size 5 1 v' (l.length + m.length) (Lib.byteCells l ++ Lib.byteCells m)) (hg : W.grownBy w1 v.ownBlock) (hn : v' = .slice none 0 0 ↔ v = .slice none 0 0 ∧ m.length = 0) : BRow w1 w.heap.size v' (l ++ m) ∧ Below w.heap.size w w1 := by
  refine ⟨⟨?_, fun q => h.2 (hn.1 q).1⟩, hB.grown hg hB.size (fun j hj => (h.1.lt j hj).1)⟩
  rw [Lib.byteCells_append, List.length_append]
  exact hown

set_option maxRecDepth 100000 in
set_option maxHeartbeats 4000000 in
theorem rjoin_any (ga : Option Addr) (ts : List ATok) (cap : Nat) (w : World) (T : IsToks w ga ts) (hn : ts.length ≤ 140737488351232) :
    Calls Tryd.prog 13 #[.slice ga ts.length cap] w fun e w' => e = .returned (.tuple #[.string (str (joinS (joinR ts))), .int .i64 (joinE (joinR ts))]) ∧ Below w.heap.size w w' := by
  obtain ⟨n, hnn⟩ : ∃ n, ts.length = n := ⟨_, rfl⟩
  have HN : Hid (ts.length = n) := ⟨hnn⟩
  have HT : Hid (IsToks w ga ts) := ⟨T⟩
  rw [hnn] at hn ⊢
  clear hnn T
  go_enter Tryd.func13, Tryd.ntmps13
  go_wp2
  go_loopw [4, 5] (fun v c wr => ∃ (k j : Nat), c = .int .i64 k ∧ k ≤ n ∧ j ≤ k ∧ Hid (∀ i (hi : i < ts.length), i < k → okT (ts[i]'hi) = true) ∧ BRow wr w.heap.size v (joinL (ts.take j)) ∧ (joinL (ts.take j)).length ≤ 16417 ∧
      Hid (j = k ∨ 16384 < (joinL (ts.take j)).length) ∧ Below w.heap.size w wr) (fun _ c _ => n - (intOf c).toNat)
  case atStart => exact ⟨0, 0, rfl, Nat.zero_le _, Nat.le_refl _, ⟨fun i _ h => absurd h (Nat.not_lt_zero _)⟩, BRow.made w, by simp [joinL], ⟨.inl rfl⟩, Joins.below_alloc1 _ _⟩
  case round =>
    obtain ⟨k, j, rfl, hk, hjk, HA, RW, hlen, HJ, BR⟩ := hrel
    obtain ⟨g2, cap2, rfl⟩ := RW.form
    by_cases hlt : k < n
    · have hkl : k < ts.length := by rw [HN.out]; exact hlt
      obtain ⟨g, off, rfl, c0, c1, c2, c3⟩ := tok_at HT.out BR k hkl
      have F := HT.out.2 _ (List.getElem_mem hkl)
      obtain ⟨s, HS, Q⟩ := text_any (ts[k]'hkl) F
      unfold atokV at Q
      have HB : Hid (okT (ts[k]'hkl) = false → joinR ts = .error 2) := ⟨join_bad hkl⟩
      have HC : Hid (okT (ts[k]'hkl) = true → ∀ i (hi : i < ts.length), i < k + 1 → okT (ts[i]'hi) = true) := ⟨fun q i hi hik => by
        rcases Nat.lt_or_ge i k with t | t
        · exact HA.out i hi t
        · obtain rfl : i = k := by omega
          exact q⟩
      have HW : Hid (okT (ts[k]'hkl) = true → (writ (ts[k]'hkl)).length ≤ 32) := ⟨fun q => (writ_read q F.2.1).2.2⟩
      have HSN : Hid (joinL (ts.take (k + 1)) = joinL (ts.take k) ++ writ (ts[k]'hkl) ++ [32]) := ⟨join_snoc ts k hkl⟩
      generalize ts[k]'hkl = t at *
      have HWt : Hid (okT t = true → s = str (writ t)) := HS
      obtain ⟨u, hu⟩ : ∃ u, writ t = u := ⟨_, rfl⟩
      rw [hu] at HWt HW HSN
      clear hu HS
      obtain ⟨tk, tx, tn, ta⟩ := t
      simp only at c0 c1 c2 c3 Q
      have hlt' : (k : Int) < n := by omega
      generalize okT ⟨tk, tx, tn, ta⟩ = b at *
      have HR : Hid (BRow wr w.heap.size (.slice (some ⟨g2, 0, none⟩) (joinL (ts.take j)).length cap2) (joinL (ts.take j))) := ⟨RW⟩
      clear HA F hkl RW
      cases b
      · go_wp2_with (go_at_call 27; refine (Q _).mono ?_; rintro e w1 ⟨rfl, B1⟩)
        go_ret2
        rw [HB.out (by simp)]
        exact ⟨rfl, BR.trans (Joins.below_le B1 BR.size)⟩
      · have hus := HWt.out rfl
        subst hus
        have hul := HW.out rfl
        have uss : (str u).size = u.length := str_size u
        have HAc : Hid (∀ i (hi : i < ts.length), i < k + 1 → okT (ts[i]'hi) = true) := ⟨HC.out rfl⟩
        clear HC HW HWt HB
        by_cases hbig : (joinL (ts.take j)).length ≤ 16384
        · obtain rfl : j = k := by rcases HJ.out with q | q; exact q; omega
          generalize hacc : joinL (ts.take j) = acc at *
          have hb' : (acc.length : Int) ≤ 16384 := by omega
          have HQ : Hid (joinL (ts.take (j + 1)) = acc ++ u ++ [32]) := ⟨HSN.out⟩
          have HU : Hid (u.length ≤ 32) := ⟨hul⟩
          have HS : Hid ((str u).size = u.length) := ⟨uss⟩
          have HAL : Hid (acc.length ≤ 16384) := ⟨hbig⟩
          clear hacc hlen HJ HSN hul uss hbig
          go_wp2_with (first
            | (go_at_call 27; refine (Q _).mono ?_; rintro e w1 ⟨rfl, B1⟩; have R1 := HR.out.later B1; have C1 := BR.trans (Joins.below_le B1 BR.size))
            | (at_builtin; obtain ⟨i0, hi, hz0, hz1, hz2⟩ := info_parts info5; refine Lib.wpList_append_own_string _ rfl _ _ 68 9 rfl w.heap.size 5 i0 Tryd.underlying68 Tryd.underlying9 hi hz0 hz1 hz2 _ acc.length (Lib.byteCells acc) rfl R1.1 (str u) rfl (by rw [HS.out]; have := HU.out; have := HAL.out; unfold maxLen; omega) (by rw [HS.out]; have := HU.out; have := HAL.out; omega) C1.size ?_; intro v' w2 hown' hgrow' hnil'; clear hi hz0 hz1 hz2; have RM := brow_more (m := u) C1 R1 (by rw [HS.out] at hown'; exact hown') hgrow' (by rw [HS.out] at hnil'; exact hnil'); obtain ⟨au, hau⟩ : ∃ au, acc ++ u = au := ⟨_, rfl⟩; rw [hau] at RM; have HAU : Hid (acc ++ u = au) := ⟨hau⟩; have HLU : Hid (au.length ≤ 16416) := ⟨by rw [← hau, List.length_append]; have := HU.out; have := HAL.out; omega⟩; clear hau; obtain ⟨R2, C2⟩ := RM; clear hown' hgrow' hnil'; obtain ⟨g3, cap3, rfl⟩ := R2.form; have HR2 : Hid (BRow w2 w.heap.size (.slice (some ⟨g3, 0, none⟩) au.length cap3) au) := ⟨R2⟩; clear R2 R1)
            | (at_builtin; obtain ⟨i0, hi, hz0, hz1, hz2⟩ := info_parts info5; refine wpList_append_own _ rfl _ _ 68 rfl w.heap.size 5 i0 _ 1 1 Tryd.underlying68 hi hz0 hz1 hz2 rfl (by decide) (.slice (some ⟨g3, 0, none⟩) au.length cap3) au.length (Lib.byteCells au) rfl (HR2.out.later (Joins.below_alloc1 _ _)).1 ⟨w2.heap.size, 0, none⟩ 1 1 [.int .u8 32] rfl rfl (news1 (heap_alloc_new _ _)) (by simp [Value.oneCell']) (by have := HLU.out; unfold maxLen; omega) (by have := HLU.out; omega) (by have := C2.size; simp; omega) ?_; intro v3 w3 hown3 hgrow3 hnil3; clear hi hz0 hz1 hz2; have RM3 := brow_more (m := [32]) (C2.trans (Joins.below_le (Joins.below_alloc1 _ _) C2.size)) (HR2.out.later (Joins.below_alloc1 _ _)) hown3 hgrow3 (by simpa using hnil3); have HM3 : Hid (BRow w3 w.heap.size v3 (au ++ [32]) ∧ Below w.heap.size w w3) := ⟨RM3⟩; clear RM3 hown3 hgrow3 hnil3))
          go_roundw
          case rel => exact ⟨j + 1, j + 1, by go_num, by omega, Nat.le_refl _, HAc, by rw [HQ.out, HAU.out]; exact HM3.out.1, by rw [HQ.out, HAU.out]; have := HLU.out; simp; omega, ⟨.inl rfl⟩, HM3.out.2⟩
          case measure => simp [intOf]; omega
        · have hb' : ¬ ((joinL (ts.take j)).length : Int) ≤ 16384 := by omega
          have HJ2 : Hid (16384 < (joinL (ts.take j)).length) := ⟨by omega⟩
          have HLN : Hid ((joinL (ts.take j)).length ≤ 16417) := ⟨hlen⟩
          clear hlen HJ HSN
          go_wp2_with (go_at_call 27; refine (Q _).mono ?_; rintro e w1 ⟨rfl, B1⟩)
          go_roundw
          case rel => exact ⟨k + 1, j, by go_num, by omega, by omega, HAc, HR.out.later B1, HLN.out, ⟨.inr HJ2.out⟩, BR.trans (Joins.below_le B1 BR.size)⟩
          case measure => simp [intOf]; omega
    · obtain rfl : k = n := by omega
      have HALL : Hid (ts.all okT = true) := ⟨all_of (fun i hi => HA.out i hi (by rw [← HN.out]; exact hi))⟩
      clear HA
      by_cases hbig : 16384 < (joinL (ts.take j)).length
      · have HX : Hid (joinR ts = .error 3) := ⟨by
          unfold joinR
          rw [if_pos HALL.out, if_pos (by have := join_le ts j; omega)]⟩
        have hb' : (16384 : Int) < (joinL (ts.take j)).length := by omega
        go_wp2
        go_ret2
        rw [HX.out]
        exact ⟨rfl, BR⟩
      · obtain rfl : j = k := by rcases HJ.out with q | q; exact q; omega
        have ht : ts.take j = ts := List.take_of_length_le (by rw [HN.out]; exact Nat.le_refl _)
        have HX : Hid (joinR ts = .ok (joinL (ts.take j))) := ⟨by
          rw [ht] at hbig ⊢
          unfold joinR
          rw [if_pos HALL.out, if_neg hbig]⟩
        have hb' : ¬ (16384 : Int) < (joinL (ts.take j)).length := by omega
        have hC := RW.text
        clear ht RW hbig HJ hlen
        generalize joinL (ts.take j) = acc at *
        go_wp2
        go_ret2
        rw [HX.out]
        exact ⟨rfl, BR⟩


end Go.Proofs.YtoedeedoecdajaaDoor
