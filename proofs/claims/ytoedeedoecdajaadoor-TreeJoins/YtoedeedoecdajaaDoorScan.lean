/- Package lex's Scan. -/
import Derived.Test.YtoedeedoecdajaaDoorJust
import Derived.Test.YtoedeedoecdajaaDoorFroms
import Derived.Test.YtoedeedoecdajaaDoorCells
import Derived.Deep.AppendLies
import Derived.OwnWalk
namespace Go.Proofs.YtoedeedoecdajaaDoor
open Go.RowKit
set_option linter.unusedVariables false

theorem info38 : (Tryd.prog.info? 39).map (fun i => (i.zero, i.size, i.bytes)) = some (some (.agg #[.int .i64 0, .string ⟨#[]⟩, .int .i64 0, .int .i64 0]), 4, 40) := by kernel_rfl
/-- What Scan answers. -/
def scanL : Except (Nat × Int) (List Tok) → List Tok
  | .ok ts => ts
  | .error _ => []
def scanA : Except (Nat × Int) (List Tok) → Int
  | .ok _ => 0
  | .error e => e.1
def scanE : Except (Nat × Int) (List Tok) → Int
  | .ok _ => 0
  | .error e => e.2
def Row (w : World) (base : Nat) (v : Value) (ts : List Tok) : Prop := w.ownsRow base 39 4 v ts.length (cellsT ts)
theorem Row.later {w w' : World} {base : Nat} {v : Value} {ts : List Tok} (h : Row w base v ts) (hb : Below w.heap.size w w') : Row w' base v ts :=
  World.ownsRow.kept (row := none) h ⟨hb.os, hb.tape, hb.output, hb.size, fun k hk _ => hb.block k hk⟩ (by cases v.ownBlock <;> simp)
theorem Row.nil (w : World) (base : Nat) : Row w base (.slice none 0 0) [] := World.ownsRow_nil _ _ _ _
theorem ahead_err (ts : List Tok) (e) : ahead ts (.error e) = .error e := rfl
theorem ahead_end (ts : List Tok) : ahead ts (.ok []) = .ok ts := by simp [ahead]

/-- What the append leaves. -/
theorem row_more {w W w1 : World} {v v' : Value} {ts : List Tok} {t : Tok} (hB : Below w.heap.size w W) (h : Row W w.heap.size v ts)
    (hown : w1.ownsRow w.heap.size 39 4 v' (ts.length + 1) (cellsT ts ++ tokC t)) (hg : W.grownBy w1 v.ownBlock) : Row w1 w.heap.size v' (ts ++ [t]) ∧ Below w.heap.size w w1 := by
  refine ⟨?_, hB.grown hg hB.size (fun j hj => (h.lt j hj).1)⟩
  unfold Row
  rw [cellsT_snoc, List.length_append]
  exact hown
theorem news4 {W : World} {g : Nat} {k : Int} {t : ByteArray} {n a : Int} {ty : TypeId} (h : W.heap[g]? = some (.cells #[.int .i64 k, .string t, .int .i64 n, .int .i64 a] ty (0, 0))) :
    ∀ j u, [Value.int .i64 k, .string t, .int .i64 n, .int .i64 a][j]? = some u → W.cell? ((⟨g, 0, none⟩ : Addr).add j) = some u := World.news_of_block h

theorem new2 (w : World) (o o' : Obj) : ((w.alloc o).alloc o').heap[w.heap.size + 1]? = some o' := by have := heap_alloc_new (w.alloc o) o'; simpa using this
theorem below2_of {w w' : World} (h : Below w.heap.size w w') (o o' : Obj) : Below w.heap.size w ((w'.alloc o).alloc o') := (h.alloc h.size o).alloc (by have := h.size; simp; omega) o'
set_option maxHeartbeats 2000000 in
theorem scan_any (s : ByteArray) (w : World) (L : Laid w) :
    Calls Tryd.prog 20 #[.string s] w fun e w' => ∃ v, e = .returned (.tuple #[v, .int .i64 (scanA (scanAll s.data.toList)), .int .i64 (scanE (scanAll s.data.toList))]) ∧
      Row w' w.heap.size v (scanL (scanAll s.data.toList)) ∧ Below w.heap.size w w' := by
  have sl := size_list s
  by_cases hbig : 16384 < s.size
  · have z : (16384 : Int) < s.size := by omega
    rw [show scanAll s.data.toList = .error (0, 3) by rw [scanAll, if_pos (by omega)]]
    go_enter Tryd.func20, Tryd.ntmps20
    go_wp2
    exact bodyPost_ret (v := .tuple #[.slice none 0 0, .int .i64 0, .int .i64 3]) (by simp [results, Tryd.results20, go_sem]) rfl ⟨_, rfl, Row.nil _ _, Below.refl _ _⟩
  · have z : ¬ (16384 : Int) < s.size := by omega
    rw [scanAll_from _ (by omega)]
    obtain ⟨R, hR⟩ : ∃ R, from' s.data.toList 0 = R := ⟨_, rfl⟩
    rw [hR]
    have N0 := fun w => next_any s 0 (by omega) (by omega) w
    obtain ⟨k0, hk0⟩ : ∃ k0, 0 + skipN false (s.data.toList.drop 0) = k0 := ⟨_, rfl⟩
    have hle := skipN_le false (s.data.toList.drop 0)
    simp only [List.length_drop, sl] at hle
    have H1 : Hid (ahead [] (from' s.data.toList k0) = R) := ⟨by rw [ahead_nil, ← hk0, from_skip, hR]⟩
    have H2 : Hid (skipN false (s.data.toList.drop k0) = 0) := ⟨by rw [← hk0, Nat.zero_add]; exact skip_idem false _⟩
    have hk : k0 ≤ s.size := by omega
    rw [hk0] at N0
    clear hk0 hle hR sl
    go_enter Tryd.func20, Tryd.ntmps20
    go_wp2_with (go_at_call 33; refine (N0 _).mono ?_; rintro e w1 ⟨rfl, hw⟩; subst w1)
    go_loopw [5, 6] (fun v c wr => ∃ (k : Nat) (ts : List Tok), c = .int .i64 k ∧ k ≤ s.size ∧ ts.length ≤ k ∧ Row wr w.heap.size v ts ∧ Hid (ahead ts (from' s.data.toList k) = R) ∧ Hid (skipN false (s.data.toList.drop k) = 0) ∧ Below w.heap.size w wr)
      (fun _ c _ => s.size - (intOf c).toNat)
    case atStart => exact ⟨k0, [], rfl, hk, Nat.zero_le _, Row.nil _ _, H1, H2, Below.refl _ _⟩
    case round =>
      obtain ⟨k, ts, rfl, hks, htk, RW, HF, HS, BR⟩ := hrel
      have LR := L.later BR
      by_cases hlt : k < s.size
      · have RD := read_any s k hlt (by omega) wr LR
        cases e : readT (s.data.toList.drop k) with
        | error er =>
          have HX : Hid (R = .error (k, er)) := ⟨by rw [← HF.out, from_err _ _ (by rw [size_list]; exact hlt) HS.out e]; rfl⟩
          have her := readT_err e
          have ne : ¬ er = 0 := by omega
          rw [e] at RD
          simp only [readV, tokV] at RD
          clear e her
          go_wp2_with (go_at_call 34; refine RD.mono ?_; rintro e w1 ⟨rfl, B1⟩)
          rw [HX.out]
          exact bodyPost_ret (v := .tuple #[.slice none 0 0, .int .i64 k, .int .i64 er]) (by simp [results, Tryd.results20, go_sem]) rfl ⟨_, rfl, Row.nil _ _, BR.trans (Joins.below_le (B1.alloc B1.size _) BR.size)⟩
        | ok t =>
          have tl := readT_len e
          simp only [List.length_drop, size_list] at tl
          obtain ⟨k2, hk2⟩ : ∃ k2, k + t.len + skipN false (s.data.toList.drop (k + t.len)) = k2 := ⟨_, rfl⟩
          have HX : Hid (ahead (ts ++ [⟨t.kind, t.text, t.num, k⟩]) (from' s.data.toList k2) = R) := ⟨by rw [← HF.out, from_ok _ _ (by rw [size_list]; exact hlt) HS.out e, ← hk2, from_skip, ahead_ahead]⟩
          have HY : Hid (skipN false (s.data.toList.drop k2) = 0) := ⟨by rw [← hk2, ← List.drop_drop]; exact skip_idem false _⟩
          have hle := skipN_le false (s.data.toList.drop (k + t.len))
          simp only [List.length_drop, size_list] at hle
          have N2 := fun w => next_any s (k + t.len) (by omega) (by omega) w
          rw [hk2] at N2
          rw [e] at RD
          obtain ⟨tk, tt, tn, tlen⟩ := t
          simp only [readV, tokV] at RD HX HY N2 hle tl hk2
          have hk2' : k2 ≤ s.size := by omega
          have hk3 : k < k2 := by omega
          obtain ⟨k1, hk1⟩ : ∃ k1, k + tlen = k1 := ⟨_, rfl⟩
          rw [hk1] at RD N2
          clear e hk2 hle hk1 tl HF HS
          have HR : Hid (Row wr w.heap.size u5 ts) := ⟨RW⟩
          have HB : Hid (Below w.heap.size w wr) := ⟨BR⟩
          clear RW BR LR L
          go_wp2_with (first
            | (go_at_call 34; refine RD.mono ?_; rintro e w1 ⟨rfl, B1⟩)
            | (at_builtin; obtain ⟨i0, hi, hz0, hz1, hz2⟩ := info_parts info38; refine wpList_append_own _ rfl _ _ 33 rfl w.heap.size 39 i0 _ 4 40 Tryd.underlying33 hi hz0 hz1 hz2 rfl (by decide) u5 ts.length (cellsT ts) rfl (HR.out.later (below2_of B1 _ _)) ⟨w1.heap.size + 1, 0, none⟩ 1 1 (tokC ⟨tk, tt, tn, k⟩) rfl rfl (news4 (new2 _ _ _)) (by simp [Value.oneCell', tokC]) (by unfold maxLen; omega) (by omega) (by have := HB.out.size; have := B1.size; simp; omega) ?_; intro v' w2 hown' hgrow' _; clear hi hz0 hz1 hz2; have RM := row_more (HB.out.trans (Joins.below_le (below2_of B1 _ _) HB.out.size)) (HR.out.later (below2_of B1 _ _)) hown' hgrow'; have HM : Hid (Row w2 w.heap.size v' (ts ++ [⟨tk, tt, tn, k⟩]) ∧ Below w.heap.size w w2) := ⟨RM⟩; clear RM hown' hgrow')
            | (go_at_call 33; refine (N2 _).mono ?_; rintro e w3 ⟨rfl, hw⟩; subst w3))
          go_roundw
          case rel => exact ⟨k2, ts ++ [⟨tk, tt, tn, k⟩], by go_num, hk2', by simp; omega, HM.out.1, HX, HY, HM.out.2⟩
          case measure => simp [intOf]; omega
      · obtain rfl : k = s.size := by omega
        have HX : Hid (R = .ok ts) := ⟨by rw [← HF.out, from_end _ _ (by rw [size_list]; exact Nat.le_refl _), ahead_end]⟩
        clear HF HS
        go_wp2
        rw [HX.out]
        exact bodyPost_ret (v := .tuple #[u5, .int .i64 0, .int .i64 0]) (by simp [results, Tryd.results20, go_sem]) rfl ⟨_, rfl, RW, BR⟩

end Go.Proofs.YtoedeedoecdajaaDoor
