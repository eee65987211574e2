/- Blanks and remarks: the plain side of TreeBlanks; tokens in memory. -/
import Derived.Test.YtoedeedoecdajaaDoorRJoin
import Derived.Test.YtoedeedoecdajaaDoorTreeTexts
import Derived.Test.YtoedeedoecdajaaDoorParse
import Derived.Test.YtoedeedoecdajaaDoorSize
import Derived.Test.YtoedeedoecdajaaDoorLaid
import Derived.Test.YtoedeedoecdajaaDoorAwake
import Derived.Test.YtoedeedoecdajaaDoorRefPg
namespace Go.Proofs.YtoedeedoecdajaaDoor
open Go.RowKit
set_option linter.unusedVariables false
set_option linter.unusedSimpArgs false

def aT (t : Tok) : ATok := ⟨t.kind, t.text, t.num, t.at'⟩
theorem one_zero {l : List UInt8} {t : Tk} (h : one l = .ok t) (hk : t.kind ≠ 4) : t.num = 0 := by
  cases l with
  | nil => cases h
  | cons c r =>
    unfold one at h
    simp only at h
    split at h
    · cases h; rfl
    · split at h
      · cases h; rfl
      · split at h
        · cases h; rfl
        · split at h
          · split at h
            · cases h; exact absurd rfl hk
            · cases h
          · split at h
            · cases h; rfl
            · split at h
              · cases h; rfl
              · cases h
def Zero (l : List Tok) : Prop := ∀ t ∈ l, t.kind ≠ 4 → t.num = 0
theorem scanF_zero : ∀ f l a ts, scanF f l a = .ok ts → Zero ts
  | 0, _, _, _, h => by cases h; exact fun t ht => by cases ht
  | f + 1, l, a, ts, h => by
    by_cases hk : skipN false l < l.length
    · rcases hr : readT (l.drop (skipN false l)) with e | t
      · rw [scanF_err _ _ _ hk hr] at h; cases h
      · rw [scanF_ok _ _ _ hk hr] at h
        rcases hq : scanF f ((l.drop (skipN false l)).drop t.len) (a + skipN false l + t.len) with e | us
        · rw [hq] at h; cases h
        · rw [hq] at h
          cases h
          have ih := scanF_zero f _ _ _ hq
          intro u hu
          rcases List.mem_append.1 hu with z | z
          · rw [List.mem_singleton] at z; subst z; exact one_zero (readT_one hr).1
          · exact ih u z
    · rw [scanF_end _ _ _ hk] at h
      cases h
      exact fun t ht => by cases ht
theorem scan_zero {l : List UInt8} {ts : List Tok} (h : scanAll l = .ok ts) : Zero ts := by
  unfold scanAll at h
  split at h
  · cases h
  · exact scanF_zero _ _ _ _ h
theorem name_three {t : Tok} (g : GoodK t.kind t.text t.num) (z : t.kind ≠ 4 → t.num = 0) : nameT (aT t) = three t := by
  unfold nameT aT three
  by_cases h : t.kind = 4
  · simp [h, g.int h]
  · simp [h, z h]
theorem blanks_pure {s : List UInt8} {ts : List Tok} (hs : scanAll s = .ok ts) {x : List UInt8} (hx : joinR (ts.map aT) = .ok x) : ∃ ms, scanAll x = .ok ms ∧ ms.length = ts.length ∧
    ((∃ p q, parseT s = .ok p ∧ parseT x = .ok q ∧ sameP p q = true) ∨ ∃ e n, parseT s = .error (placeT s.length (ts.drop n), e) ∧ parseT x = .error (placeT x.length (ms.drop n), e)) := by
  have G := scan_good hs
  have Z := scan_zero hs
  unfold joinR at hx
  split at hx
  · rename_i hall
    split at hx
    · cases hx
    · rename_i hl
      cases hx
      obtain ⟨ms, hm, he⟩ := scan_join (ts.map aT) hall (fun t ht => by
        obtain ⟨u, hu, rfl⟩ := List.mem_map.1 ht
        exact ⟨(G u hu).lo, (G u hu).hi⟩) (by omega)
      have he2 : ms.map three = ts.map three := by
        rw [he, List.map_map]
        exact List.map_congr_left fun t ht => name_three (G t ht) (Z t ht)
      have hlen : ms.length = ts.length := by have := congrArg List.length he2; simpa using this
      have hk : kindsT ts = kindsT ms := by
        unfold kindsT
        have : ∀ l : List Tok, l.map (fun t => (t.kind, t.text, t.num)) = (l.map three).map fun u => (u.kind, u.text, u.num) := fun l => by rw [List.map_map]; rfl
        rw [this, this, he2]
      refine ⟨ms, hm, hlen, ?_⟩
      rcases prog_blanks hk with ⟨p, q, r, r', h1, h2, h3⟩ | ⟨e, n, _, h1, h2⟩
      · exact .inl ⟨p, q, parse_isok hs h1, parse_isok hm h2, h3⟩
      · exact .inr ⟨e, n, parse_err hs h1, parse_err hm h2⟩
  · cases hx
theorem joinR_err {ts : List ATok} {e : Int} (h : joinR ts = .error e) : e ≠ 0 := by
  unfold joinR at h
  split at h
  · split at h
    · cases h; decide
    · cases h
  · cases h; decide
theorem cellsT_get : ∀ (l : List Tok) (i : Nat) (h : i < l.length), (cellsT l)[i * 4]? = some (.int .i64 (l[i]'h).kind) ∧ (cellsT l)[i * 4 + 1]? = some (.string (str (l[i]'h).text)) ∧ (cellsT l)[i * 4 + 2]? = some (.int .i64 (l[i]'h).num) ∧ (cellsT l)[i * 4 + 3]? = some (.int .i64 (l[i]'h).at')
  | [], _, h => absurd h (Nat.not_lt_zero _)
  | a :: l, 0, _ => ⟨rfl, rfl, rfl, rfl⟩
  | a :: l, i + 1, h => by
    obtain ⟨h0, h1, h2, h3⟩ := cellsT_get l i (by simpa using h)
    have e : cellsT (a :: l) = tokC a ++ cellsT l := rfl
    have key : ∀ j u, (cellsT l)[i * 4 + j]? = some u → (cellsT (a :: l))[(i + 1) * 4 + j]? = some u := fun j u hu => by
      rw [e, List.getElem?_append_right (by simp only [tokC, List.length_cons, List.length_nil]; omega)]
      simp only [tokC, List.length_cons, List.length_nil]
      rw [show (i + 1) * 4 + j - (0 + 1 + 1 + 1 + 1) = i * 4 + j by omega]
      exact hu
    exact ⟨key 0 _ h0, key 1 _ h1, key 2 _ h2, key 3 _ h3⟩
theorem row_toks {w : World} {base : Nat} {ga : Option Addr} {cap : Nat} {ts : List Tok} (R : Row w base (.slice ga ts.length cap) ts) (G : Good ts) (hl : ∀ t ∈ ts, t.text.length ≤ 140737488351232) : IsToks w ga (ts.map aT) := by
  refine ⟨fun hn => ?_, fun t ht => ?_⟩
  · rw [List.length_map] at hn
    obtain ⟨g, cap', e, _, hc⟩ := own_cells R hn
    cases e
    refine ⟨g, 0, rfl, fun i hi => ?_⟩
    have hi' : i < ts.length := by simpa using hi
    obtain ⟨h0, h1, h2, h3⟩ := cellsT_get ts i hi'
    simp only [List.getElem_map, Nat.zero_add, aT]
    exact ⟨hc _ _ h0, hc _ _ h1, hc _ _ h2, hc _ _ h3⟩
  · obtain ⟨u, hu, rfl⟩ := List.mem_map.1 ht
    have g := G u hu
    exact ⟨⟨by have := g.kd; simp only [aT]; omega, by have := g.kd; simp only [aT]; omega⟩, ⟨g.lo, g.hi⟩, hl u hu⟩
theorem scanF_text : ∀ f l a ts, scanF f l a = .ok ts → ∀ t ∈ ts, t.text.length ≤ l.length
  | 0, _, _, _, h => by cases h; exact fun t ht => by cases ht
  | f + 1, l, a, ts, h => by
    by_cases hk : skipN false l < l.length
    · rcases hr : readT (l.drop (skipN false l)) with e | t
      · rw [scanF_err _ _ _ hk hr] at h; cases h
      · rw [scanF_ok _ _ _ hk hr] at h
        rcases hq : scanF f ((l.drop (skipN false l)).drop t.len) (a + skipN false l + t.len) with e | us
        · rw [hq] at h; cases h
        · rw [hq] at h
          cases h
          have ih := scanF_text f _ _ _ hq
          intro u hu
          rcases List.mem_append.1 hu with z | z
          · rw [List.mem_singleton] at z
            subst z
            have := one_text (readT_one hr).1
            simp only [List.length_drop] at this
            simp only
            omega
          · have := ih u z
            simp only [List.length_drop] at this
            omega
    · rw [scanF_end _ _ _ hk] at h
      cases h
      exact fun t ht => by cases ht
theorem scan_text {l : List UInt8} {ts : List Tok} (h : scanAll l = .ok ts) : ∀ t ∈ ts, t.text.length ≤ 140737488351232 := by
  unfold scanAll at h
  split at h
  · cases h
  · intro t ht
    have := scanF_text _ _ _ _ h t ht
    omega
theorem zero_PV (w : World) (ok : Nat → Prop) : isPV w ok ⟨[], []⟩ (.agg #[nil3, nil3]) := ⟨nil3, nil3, [], rfl, isRow_nil _ _ _, isRow_nil _ _ _, by simp only [isBs]⟩

end Go.Proofs.YtoedeedoecdajaaDoor

/-
  For every text: its tokens, written one behind the other, are the same tree but for the places, or have the same fault at the same token.
  Conditions: none on the input; seven package-level variables of the library (tables and two errors) start as the library's text lays them (the card ties them to that text, of the pruned copy of the project that this seat holds; one of them, unicode/utf8.first, by the form's own constant).
-/
namespace Go.Proofs.YtoedeedoecdajaaDoor.treeBlanks
open Go.ChangeShapes Go.WideShapes Go.ChangeAt Go.RowKit
open Go.ChangeMaps (open_string)
set_option linter.unusedVariables false

theorem rscan_at {z : List UInt8} {r : Except (Nat × Int) (List Tok)} (h : scanAll z = r) (w : World) (L : Laid w) : Calls Tryd.prog 12 #[.string (str z)] w fun e w' => ∃ v, e = .returned (.tuple #[v, .int .i64 (scanA r), .int .i64 (scanE r)]) ∧ Row w' w.heap.size v (scanL r) ∧ Below w.heap.size w w' := by
  have q := rscan_any (str z) w L
  rw [str_list, h] at q
  exact q
theorem parse_str {z : List UInt8} {r : Except (Nat × Int) Pg} (h : parseT z = r) (w : World) (L : Laid w) : Calls Tryd.prog 10 #[.string (str z)] w (ParsesTo w r) := parse_at (s := str z) (by rw [str_list]; exact h) w L
set_option maxRecDepth 100000 in
set_option maxHeartbeats 8000000 in
theorem walk_none (s : List UInt8) (a : Nat) (c : Int) (hS : scanAll s = .error (a, c)) (w : World) (L : Laid w) :
    Calls Tryd.prog 5 #[.string (str s)] w fun e w' => e = .returned (.bool true) ∧ Below w.heap.size w w' := by
  have SC := rscan_at hS w L
  simp only [scanA, scanE, scanL] at SC
  have hc := errs_scan hS
  have hcb : (c == 0) = false := by simp [hc]
  have hcb' : (c != 0) = true := by simp [hc]
  have HL : Hid (Laid w) := ⟨L⟩
  clear hS L hc
  go_enter Tryd.func5, Tryd.ntmps5
  go_wp2_with (first
    | (go_at_call 12; refine SC.mono ?_; rintro e w1 ⟨v, rfl, R1, B1⟩; obtain ⟨ga, cap, rfl⟩ := own_form R1; have JN := rjoin_any ga [] cap w1 ⟨fun z => absurd z (Nat.lt_irrefl 0), fun t ht => by cases ht⟩ (by simp); clear R1)
    | (go_at_call 13; refine JN.mono ?_; rintro e w2 ⟨rfl, B2⟩; have BW2 := B1.trans (Joins.below_le B2 B1.size); have AW1 := awake_any w2 (HL.out.later BW2); clear JN)
    | (go_at_call 7; refine AW1.mono ?_; rintro e w3 ⟨rfl, B3⟩; have BW3 := BW2.trans (Joins.below_le B3 BW2.size); have AW2 := awake_any w3 (HL.out.later BW3); clear AW1)
    | (go_at_call 7; refine AW2.mono ?_; rintro e w4 ⟨rfl, B4⟩))
  go_ret
  exact ⟨rfl, BW3.trans (Joins.below_le B4 BW3.size)⟩
set_option maxRecDepth 100000 in
set_option maxHeartbeats 8000000 in
theorem walk_bad (s : List UInt8) (ts : List Tok) (hS : scanAll s = .ok ts) (e0 : Int) (hJ : joinR (ts.map aT) = .error e0) (w : World) (L : Laid w) :
    Calls Tryd.prog 5 #[.string (str s)] w fun e w' => e = .returned (.bool true) ∧ Below w.heap.size w w' := by
  have SC := rscan_at hS w L
  simp only [scanA, scanE, scanL] at SC
  have GD := scan_good hS
  have TL := scan_text hS
  have hlen := scan_len hS
  have HL : Hid (Laid w) := ⟨L⟩
  clear L
  have hc := joinR_err hJ
  have hcb : (e0 == 0) = false := by simp [hc]
  have hcb' : (e0 != 0) = true := by simp [hc]
  clear hS hc
  go_enter Tryd.func5, Tryd.ntmps5
  go_wp2_with (first
    | (go_at_call 12; refine SC.mono ?_; rintro e w1 ⟨v, rfl, R1, B1⟩; obtain ⟨ga, cap, rfl⟩ := own_form R1; have JN := rjoin_any ga (ts.map aT) cap w1 (row_toks R1 GD TL) (by rw [List.length_map]; omega); rw [List.length_map, hJ] at JN; simp only [joinS, joinE] at JN; clear R1)
    | (go_at_call 13; refine JN.mono ?_; rintro e w2 ⟨rfl, B2⟩; have BW2 := B1.trans (Joins.below_le B2 B1.size); have AW1 := awake_any w2 (HL.out.later BW2); clear JN)
    | (go_at_call 7; refine AW1.mono ?_; rintro e w3 ⟨rfl, B3⟩; have BW3 := BW2.trans (Joins.below_le B3 BW2.size); have AW2 := awake_any w3 (HL.out.later BW3); clear AW1)
    | (go_at_call 7; refine AW2.mono ?_; rintro e w4 ⟨rfl, B4⟩))
  go_ret
  exact ⟨rfl, BW3.trans (Joins.below_le B4 BW3.size)⟩
set_option maxRecDepth 100000 in
set_option maxHeartbeats 8000000 in
theorem walk_ok (s : List UInt8) (ts : List Tok) (hS : scanAll s = .ok ts) (x : List UInt8) (hJ : joinR (ts.map aT) = .ok x) (ms : List Tok) (hM : scanAll x = .ok ms) (hlm : ms.length = ts.length) (p q : Pg) (hp : parseT s = .ok p) (hq : parseT x = .ok q) (hpq : sameP p q = true) (w : World) (L : Laid w) :
    Calls Tryd.prog 5 #[.string (str s)] w fun e w' => e = .returned (.bool true) ∧ Below w.heap.size w w' := by
  have SC := rscan_at hS w L
  simp only [scanA, scanE, scanL] at SC
  have GD := scan_good hS
  have TL := scan_text hS
  have hlen := scan_len hS
  have HL : Hid (Laid w) := ⟨L⟩
  clear L
  have HM : Hid (scanAll x = .ok ms) := ⟨hM⟩
  have HP : Hid (parseT s = .ok p) := ⟨hp⟩
  have HQ : Hid (parseT x = .ok q) := ⟨hq⟩
  have HPQ : Hid (sameP p q = true) := ⟨hpq⟩
  have HLM : Hid (ms.length = ts.length) := ⟨hlm⟩
  clear hS hM hp hq hpq hlm
  go_enter Tryd.func5, Tryd.ntmps5
  go_wp2_with (first
    | (go_at_call 12; refine SC.mono ?_; rintro e w1 ⟨v, rfl, R1, B1⟩; obtain ⟨ga, cap, rfl⟩ := own_form R1; have JN := rjoin_any ga (ts.map aT) cap w1 (row_toks R1 GD TL) (by rw [List.length_map]; omega); rw [List.length_map, hJ] at JN; simp only [joinS, joinE] at JN; clear R1 SC)
    | (go_at_call 13; refine JN.mono ?_; rintro e w2 ⟨rfl, B2⟩; have BW2 := B1.trans (Joins.below_le B2 B1.size); have AW1 := awake_any w2 (HL.out.later BW2); clear JN)
    | (go_at_call 7; refine AW1.mono ?_; rintro e w3 ⟨rfl, B3⟩; have BW3 := BW2.trans (Joins.below_le B3 BW2.size); have P1 := parse_str HP.out w3 (HL.out.later BW3); clear AW1)
    | (go_at_call 10; refine P1.mono ?_; rintro e w4 ⟨B4, v4, rfl, I4⟩; obtain ⟨gd, cd, gb, cb, rfl⟩ := isPV_two I4; have HI4 : Hid (isPV w4 (new w3 w4) p _) := ⟨I4⟩; have BW4 := BW3.trans (Joins.below_le B4 BW3.size); have BW4' := BW4.trans (Joins.below_le (Joins.below_alloc1 w4 (.cells #[.slice gd p.datas.length cd, .slice gb p.binds.length cb] 25)) BW4.size); have P2 := parse_str HQ.out _ (HL.out.later BW4'); clear I4 P1)
    | (go_at_call 10; refine P2.mono ?_; rintro e w5 ⟨B5, v5, rfl, I5⟩; obtain ⟨gd5, cd5, gb5, cb5, rfl⟩ := isPV_two I5; have HI5 : Hid (isPV w5 (new _ w5) q _) := ⟨I5⟩; have HB5 : Hid (Below (w4.alloc (.cells #[.slice gd p.datas.length cd, .slice gb p.binds.length cb] 25)).heap.size (w4.alloc (.cells #[.slice gd p.datas.length cd, .slice gb p.binds.length cb] 25)) w5) := ⟨B5⟩; have BW5 := BW4'.trans (Joins.below_le B5 BW4'.size); have BW5' := BW5.trans (Joins.below_le (Joins.below_alloc1 w5 (.cells #[.slice gd5 q.datas.length cd5, .slice gb5 q.binds.length cb5] 25)) BW5.size); have S2 := rscan_at HM.out _ (HL.out.later BW5'); simp only [scanA, scanE, scanL] at S2; clear I5 P2 B5)
    | (go_at_call 12; refine S2.mono ?_; rintro e w6 ⟨v6, rfl, R6, B6⟩; obtain ⟨ga6, cap6, rfl⟩ := own_form R6; rw [HLM.out]; have BW6 := BW5'.trans (Joins.below_le B6 BW5'.size); have D5 := (Blk.fresh w5 #[.slice gd5 q.datas.length cd5, .slice gb5 q.binds.length cb5] 25).kept (row := none) ⟨B6.os, B6.tape, B6.output, B6.size, fun i hi _ => B6.block i hi⟩ (by simp); have b56 : Below w5.heap.size w5 w6 := (Joins.below_alloc1 w5 _).trans (Joins.below_le B6 (by simp)); have D4 := ((Blk.fresh w4 #[.slice gd p.datas.length cd, .slice gb p.binds.length cb] 25).kept (row := none) ⟨HB5.out.os, HB5.out.tape, HB5.out.output, HB5.out.size, fun i hi _ => HB5.out.block i hi⟩ (by simp)).kept (row := none) ⟨b56.os, b56.tape, b56.output, b56.size, fun i hi _ => b56.block i hi⟩ (by simp); have y0 : w6.cell? ⟨w4.heap.size, 0, none⟩ = some (.slice gd p.datas.length cd) := D4.cell 0; have y1 : w6.cell? ⟨w4.heap.size, 1, none⟩ = some (.slice gb p.binds.length cb) := D4.cell 1; have z0 : w6.cell? ⟨w5.heap.size, 0, none⟩ = some (.slice gd5 q.datas.length cd5) := D5.cell 0; have z1 : w6.cell? ⟨w5.heap.size, 1, none⟩ = some (.slice gb5 q.binds.length cb5) := D5.cell 1; have b45 : Below w4.heap.size w4 w5 := (Joins.below_alloc1 w4 _).trans (Joins.below_le HB5.out (by simp)); have SM := same_any w6 p q _ _ (isPV_keeps (keeps_below (b45.trans (Joins.below_le b56 b45.size)) (fun _ _ => trivial)) HI4.out) (isPV_keeps (keeps_below b56 (fun _ _ => trivial)) HI5.out) HPQ.out; clear S2 R6 B6 b56 D4 D5 b45)
    | (go_at_call 9; refine SM.mono ?_; rintro e w7 ⟨rfl, B7⟩))
  go_ret
  exact ⟨rfl, BW6.trans (Joins.below_le B7 BW6.size)⟩
set_option maxRecDepth 100000 in
set_option maxHeartbeats 8000000 in
theorem walk_err (s : List UInt8) (ts : List Tok) (hS : scanAll s = .ok ts) (x : List UInt8) (hJ : joinR (ts.map aT) = .ok x) (ms : List Tok) (hM : scanAll x = .ok ms) (hlm : ms.length = ts.length) (pl pk : Nat) (c : Int) (hp : parseT s = .error (pl, c)) (hq : parseT x = .error (pk, c)) (hf : ∀ k (h : k < ts.length) (h' : k < ms.length), (ts[k]'h).at' = pl → (ms[k]'h').at' = pk) (hnone : (∀ k (h : k < ts.length), (ts[k]'h).at' ≠ pl) → pl = s.length ∧ pk = x.length) (w : World) (L : Laid w) :
    Calls Tryd.prog 5 #[.string (str s)] w fun e w' => e = .returned (.bool true) ∧ Below w.heap.size w w' := by
  have SC := rscan_at hS w L
  simp only [scanA, scanE, scanL] at SC
  have GD := scan_good hS
  have TL := scan_text hS
  have hlen := scan_len hS
  have HL : Hid (Laid w) := ⟨L⟩
  clear L
  have HM : Hid (scanAll x = .ok ms) := ⟨hM⟩
  have HP : Hid (parseT s = .error (pl, c)) := ⟨hp⟩
  have HQ : Hid (parseT x = .error (pk, c)) := ⟨hq⟩
  have HF : Hid (∀ k (h : k < ts.length) (h' : k < ms.length), (ts[k]'h).at' = pl → (ms[k]'h').at' = pk) := ⟨hf⟩
  have HNO : Hid ((∀ k (h : k < ts.length), (ts[k]'h).at' ≠ pl) → pl = s.length ∧ pk = x.length) := ⟨hnone⟩
  have c0 : (c != c) = false := by simp
  have HLM : Hid (ms.length = ts.length) := ⟨hlm⟩
  clear hS hM hp hq hf hnone hlm
  go_enter Tryd.func5, Tryd.ntmps5
  go_wp2_with (first
    | (go_at_call 12; refine SC.mono ?_; rintro e w1 ⟨v, rfl, R1, B1⟩; obtain ⟨ga, cap, rfl⟩ := own_form R1; have JN := rjoin_any ga (ts.map aT) cap w1 (row_toks R1 GD TL) (by rw [List.length_map]; omega); rw [List.length_map, hJ] at JN; simp only [joinS, joinE] at JN; have HR1 : Hid (Row w1 _ _ ts) := ⟨R1⟩; clear R1 SC)
    | (go_at_call 13; refine JN.mono ?_; rintro e w2 ⟨rfl, B2⟩; have BW2 := B1.trans (Joins.below_le B2 B1.size); have AW1 := awake_any w2 (HL.out.later BW2); clear JN)
    | (go_at_call 7; refine AW1.mono ?_; rintro e w3 ⟨rfl, B3⟩; have BW3 := BW2.trans (Joins.below_le B3 BW2.size); have P1 := parse_str HP.out w3 (HL.out.later BW3); clear AW1)
    | (go_at_call 10; refine P1.mono ?_; rintro e w4 ⟨B4, rfl, hc4⟩; have hcb : (c == 0) = false := (by simp [hc4]); have BW4 := BW3.trans (Joins.below_le B4 BW3.size); have BW4' := BW4.trans (Joins.below_le (Joins.below_alloc1 w4 (.cells #[nil3, nil3] 25)) BW4.size); have P2 := parse_str HQ.out _ (HL.out.later BW4'); clear hc4 P1)
    | (go_at_call 10; refine P2.mono ?_; rintro e w5 ⟨B5, rfl, _⟩; have HB5 : Hid (Below (w4.alloc (.cells #[nil3, nil3] 25)).heap.size (w4.alloc (.cells #[nil3, nil3] 25)) w5) := ⟨B5⟩; have BW5 := BW4'.trans (Joins.below_le B5 BW4'.size); have BW5' := BW5.trans (Joins.below_le (Joins.below_alloc1 w5 (.cells #[nil3, nil3] 25)) BW5.size); have S2 := rscan_at HM.out _ (HL.out.later BW5'); simp only [scanA, scanE, scanL] at S2; clear P2 B5)
    | (go_at_call 12; refine S2.mono ?_; rintro e w6 ⟨v6, rfl, R6, B6⟩; obtain ⟨ga6, cap6, rfl⟩ := own_form R6; have HR6 : Hid (Row w6 _ _ ms) := ⟨R6⟩; rw [HLM.out]; have BW6 := BW5'.trans (Joins.below_le B6 BW5'.size); have D5 := (Blk.fresh w5 #[nil3, nil3] 25).kept (row := none) ⟨B6.os, B6.tape, B6.output, B6.size, fun i hi _ => B6.block i hi⟩ (by simp); have b56 : Below w5.heap.size w5 w6 := (Joins.below_alloc1 w5 _).trans (Joins.below_le B6 (by simp)); have D4 := ((Blk.fresh w4 #[nil3, nil3] 25).kept (row := none) ⟨HB5.out.os, HB5.out.tape, HB5.out.output, HB5.out.size, fun i hi _ => HB5.out.block i hi⟩ (by simp)).kept (row := none) ⟨b56.os, b56.tape, b56.output, b56.size, fun i hi _ => b56.block i hi⟩ (by simp); have y0 : w6.cell? ⟨w4.heap.size, 0, none⟩ = some nil3 := D4.cell 0; have y1 : w6.cell? ⟨w4.heap.size, 1, none⟩ = some nil3 := D4.cell 1; have z0 : w6.cell? ⟨w5.heap.size, 0, none⟩ = some nil3 := D5.cell 0; have z1 : w6.cell? ⟨w5.heap.size, 1, none⟩ = some nil3 := D5.cell 1; have SM := same_any w6 ⟨[], []⟩ ⟨[], []⟩ _ _ (zero_PV w6 anyB) (zero_PV w6 anyB) (by simp [sameP, sameDs, sameBs]); have b45 : Below w4.heap.size w4 w5 := (Joins.below_alloc1 w4 _).trans (Joins.below_le HB5.out (by simp)); have b16 : Below w1.heap.size w1 w6 := ((((B2.trans (Joins.below_le B3 B2.size)).trans (Joins.below_le B4 (B2.trans (Joins.below_le B3 B2.size)).size)).trans (Joins.below_le b45 (by have := B2.size; have := B3.size; have := B4.size; omega))).trans (Joins.below_le b56 (by have := B2.size; have := B3.size; have := B4.size; have := b45.size; omega))); have HB16 : Hid (Below w1.heap.size w1 w6) := ⟨b16⟩; clear S2 R6 B6 b56 D4 D5 b45 b16)
    | (go_at_call 9; refine SM.mono ?_; rintro e w7 ⟨rfl, B7⟩; have HB17 : Hid (Below w1.heap.size w1 w7) := ⟨HB16.out.trans (Joins.below_le B7 HB16.out.size)⟩; have HB67 : Hid (Below w6.heap.size w6 w7) := ⟨B7⟩; have BW7 := BW6.trans (Joins.below_le B7 BW6.size); clear SM B7))
  obtain ⟨N, hN⟩ : ∃ N, ts.length = N := ⟨_, rfl⟩
  have HN : Hid (ts.length = N) := ⟨hN⟩
  have HNM : Hid (ms.length = N) := ⟨by rw [HLM.out, hN]⟩
  rw [hN] at HR1 hlen ⊢
  have HR6' : Hid (Row w6 _ (.slice ga6 N cap6) ms) := ⟨by have := HR6.out; rw [HNM.out] at this; exact this⟩
  clear hN HR6 y0 y1 z0 z1 HLM HL
  go_loopw [15] (fun cc wr => ∃ k : Nat, cc = .int .i64 k ∧ k ≤ N ∧ Hid (∀ i (h : i < ts.length), i < k → (ts[i]'h).at' ≠ pl) ∧ w7 = wr) (fun cc _ => N - (intOf cc).toNat)
  case atStart => exact ⟨0, rfl, Nat.zero_le _, ⟨fun i _ h => absurd h (Nat.not_lt_zero _)⟩, rfl⟩
  case round =>
    obtain ⟨k, rfl, hk, HK, rfl⟩ := hrel
    by_cases hlt : k < N
    · have ka : k < ts.length := by rw [HN.out]; exact hlt
      have kb : k < ms.length := by rw [HNM.out]; exact hlt
      have HR1' : Hid (w1.ownsRow _ 39 4 (.slice ga N cap) N (cellsT ts)) := ⟨by have := HR1.out; unfold Row at this; rw [HN.out] at this; exact this⟩
      have HR6'' : Hid (w6.ownsRow _ 39 4 (.slice ga6 N cap6) N (cellsT ms)) := ⟨by have := HR6'.out; unfold Row at this; rw [HNM.out] at this; exact this⟩
      obtain ⟨g, cg, e, _, hx⟩ := own_cells HR1'.out (by omega)
      cases e
      obtain ⟨g', cg', e, _, hy⟩ := own_cells HR6''.out (by omega)
      cases e
      have h0 := hx _ _ (cellsT_get ts k ka).2.2.2
      have h1 := hy _ _ (cellsT_get ms k kb).2.2.2
      have x3 := (HB17.out.cell (World.block_lt_of_cell? _ _ h0)).trans h0
      have y3 := (HB67.out.cell (World.block_lt_of_cell? _ _ h1)).trans h1
      have hlt' : (k : Int) < N := by omega
      have HFk : Hid ((ts[k]'ka).at' = pl → (ms[k]'kb).at' = pk) := ⟨HF.out k ka kb⟩
      have HKk : Hid ((ts[k]'ka).at' ≠ pl → ∀ i (h : i < ts.length), i < k + 1 → (ts[i]'h).at' ≠ pl) := ⟨fun z i h hi => by
        rcases Nat.lt_or_ge i k with t | t
        · exact HK.out i h t
        · obtain rfl : i = k := by omega
          exact z⟩
      clear hx hy h0 h1 HR1' HR6''
      generalize (ts[k]'ka).at' = u at *
      generalize (ms[k]'kb).at' = v at *
      by_cases hu : u = pl
      · obtain rfl := HFk.out hu
        subst hu
        have d1 : ((u : Int) == u) = true := by simp
        have d2 : ((v : Int) == v) = true := by simp
        go_wp2
        go_ret
        exact ⟨rfl, BW7⟩
      · have d1 : ((u : Int) == pl) = false := by simp; omega
        have HK2 : Hid (∀ i (h : i < ts.length), i < k + 1 → (ts[i]'h).at' ≠ pl) := ⟨HKk.out hu⟩
        have hu' : ¬ (u : Int) = pl := by omega
        clear HK HKk HFk
        go_wp2
        refine ⟨⟨k + 1, by go_num, by omega, HK2, by first | rfl | trivial⟩, ?_⟩
        simp [intOf]
        omega
    · obtain rfl : k = N := by omega
      obtain ⟨e1, e2⟩ := HNO.out (fun i h => HK.out i h (by rw [← HN.out]; exact h))
      have d1 : ((pl : Int) == ((str s).size : Int)) = true := by rw [str_size, e1]; simp
      have d2 : ((pk : Int) == ((str x).size : Int)) = true := by rw [str_size, e2]; simp
      have e3 : (pl : Int) = ((str s).size : Int) := by rw [str_size, e1]
      have e4 : (pk : Int) = ((str x).size : Int) := by rw [str_size, e2]
      clear e1 e2
      go_wp2
      go_ret
      exact ⟨by simp [e3, e4], BW7⟩
theorem place_found {l m : List UInt8} {ts ms : List Tok} (hl : scanAll l = .ok ts) (hlm : ms.length = ts.length) (n : Nat) (k : Nat) (h : k < ts.length) (h' : k < ms.length) (e : (ts[k]'h).at' = placeT l.length (ts.drop n)) : (ms[k]'h').at' = placeT m.length (ms.drop n) := by
  rw [place_drop] at e ⊢
  by_cases hn : n < ts.length
  · rw [dif_pos hn] at e
    have := scan_at_inj hl h hn e
    subst this
    rw [dif_pos h']
  · rw [dif_neg hn] at e
    have := (scan_at hl).1 _ (List.getElem_mem h)
    omega
theorem place_none {l m : List UInt8} {ts ms : List Tok} (hlm : ms.length = ts.length) (n : Nat) (h : ∀ k (h : k < ts.length), (ts[k]'h).at' ≠ placeT l.length (ts.drop n)) : placeT l.length (ts.drop n) = l.length ∧ placeT m.length (ms.drop n) = m.length := by
  have hn : ¬ n < ts.length := fun z => h n z (by rw [place_drop, dif_pos z])
  rw [place_drop, place_drop, dif_neg hn, dif_neg (by omega)]
  exact ⟨rfl, rfl⟩
theorem walk (s0 : ByteArray) (w : World) (L : Laid w) (hs : s0.size ≤ 140737488351232) :
    Calls Tryd.prog 5 #[.string s0] w fun e w' => e = .returned (.bool true) ∧ Below w.heap.size w w' := by
  obtain ⟨s, rfl⟩ : ∃ s, s0 = str s := ⟨s0.data.toList, str_eq rfl⟩
  rcases hS : scanAll s with ⟨a, c⟩ | ts
  · exact walk_none s a c hS w L
  · rcases hJ : joinR (ts.map aT) with e0 | x
    · exact walk_bad s ts hS e0 hJ w L
    · obtain ⟨ms, hM, hlm, h | h⟩ := blanks_pure hS hJ
      · obtain ⟨p, q, hp, hq, hpq⟩ := h
        exact walk_ok s ts hS x hJ ms hM hlm p q hp hq hpq w L
      · obtain ⟨c, n, hp, hq⟩ := h
        exact walk_err s ts hS x hJ ms hM hlm _ _ c hp hq (fun k h h' e => place_found hS hlm n k h h' e) (fun h => place_none hlm n h) w L


set_option maxRecDepth 100000 in
/-- What the walk gives, for every argument and every world that holds what the row lists. -/
theorem contract (H : Type) (enc : TypeId × Value → H) (W : World) (base : Nat) (args : Array Value) (ds gs : List (DataW H)) (before : List MemPlace)
    (hval : ∀ (j : Nat) t v, Tryd.f5.params[j]? = some t → args[j]? = some v → Value.okWide Tryd.prog W .any base t v)
    (hW : DataW.Whole enc Tryd.prog Tryd.f5.params.toList Rows.treeBlanksSpec.vars false W args.toList ds gs before)
    (hsz0 : (DataW.weightsEach Tryd.prog (Tryd.f5.params.toList ++ Rows.treeBlanksSpec.plain.varTypes Tryd.prog) (ds ++ gs)).all (· ≤ reachBytes) = true)
    (hL : laidMetH Tryd.prog Rows.treeBlanksRow.laid W) :
    Calls Tryd.prog 5 args W fun e W' => ∃ v, e = .returned v ∧ Rows.treeBlanksSpec.post enc Tryd.prog Tryd.f5 false true false false W args v W' := by
  have hW' := hW
  obtain ⟨p, q, hA0, hV, rfl, hfz, hnd⟩ := hW
  have hA : DataW.TrodAll enc Tryd.prog W 0 (fun _ => true) true Tryd.f5.params.toList args.toList ds p := hA0
  rw [Tryd.params5] at hA hval hsz0
  obtain ⟨v0, vs0, d0, ds0, p0, q0, hargs, rfl, rfl, h0, r0⟩ := trodAll_cons hA
  obtain ⟨rfl, rfl, rfl⟩ := trodAll_nil r0
  obtain rfl : args = #[v0] := by cases args; simp_all
  obtain ⟨rfl, rfl⟩ := trodVars_none hV
  have hsz := hsz0
  have t0 := h0
  have lt0 : ∀ x ∈ p0, x.block < W.heap.size := by obtain ⟨m, hm⟩ := t0; exact DataW.trod_lt m _ _ _ hm
  obtain ⟨s0, rfl, hd0, hp0, ws0⟩ := open_string Tryd.underlying9 (hval 0 9 v0 rfl rfl) h0
  have bs0 : s0.size ≤ 140737488351232 := by
    have q := sized_string hsz (j := 0) (t := 9) (bytes := s0.data.toList) (by simp) (by rw [hd0]; simp)
    rw [size_list] at q
    unfold reachBytes at q
    omega
  clear hA0
  refine (walk s0 W (laid_of hL) bs0).mono fun e W' ⟨he, bel⟩ => ?_
  subst he
  exact ⟨_, rfl, _, _, _, [], _, [], hW', trodAll_mk1 (shut_bool Tryd.underlying4 _), (trodAll_cons_mk (Below.trod laidOut (by kernel_rfl) (of_decide_eq_true (by kernel_rfl)) t0 bel lt0) trodAll_mk0), rfl, bel.frame _, fun h => by cases h⟩

set_option maxRecDepth 100000 in
theorem lifted (os : Os) (started : os.Started) (H : Type) (enc : TypeId × Value → H) :
    ReturnsInHanded {} Tryd.checked os 5 .any (fun w args => (Rows.treeBlanksSpec.pre enc Tryd.prog Tryd.f5 Rows.treeBlanksRow.domain false w args ∧ laidMetH Tryd.prog Rows.treeBlanksRow.laid w) ∧ sizedMet enc Tryd.prog Tryd.f5 (OpenSpec.ofChange Rows.treeBlanksSpec) false w args)
      (Rows.treeBlanksSpec.post enc Tryd.prog Tryd.f5 false true false false) := by
  refine returnsInHanded_of_change_and (C := Tryd.checked) (X := fun w _ => laidMetH Tryd.prog Rows.treeBlanksRow.laid w) (fun _ _ _ hh h => h.of_heap hh) own started (by kernel_rfl) Tryd.func5
    (ChangeSpec.witness_shaped (enc := enc) (C := Tryd.checked) (os := os) (X := fun w _ => laidMetH Tryd.prog Rows.treeBlanksRow.laid w) false (World.laidAll Tryd.prog os laidL) #[.string ⟨#[]⟩] 8 (World.laidAll_os _ _ _)
      (World.shaped_of_ZipB (by kernel_rfl) (by kernel_rfl)) (by kernel_rfl) (by kernel_rfl) (by kernel_rfl) (met os _)) ?_
  intro W base args ds gs before hval hW _ hsz hL _
  exact contract H enc W base args ds gs before hval hW hsz hL

theorem said : Rows.TreeBlanksSaid :=
  OpenClaim.holds_of_wide 5 Tryd.f5 rfl rfl rfl rfl rfl rfl rfl ⟨rfl, rfl, rfl, rfl, rfl⟩ rfl rfl rfl rfl rfl (by kernel_rfl) Tryd.func5 (by kernel_rfl)
    (of_decide_eq_true (by kernel_rfl)) (by unfold Func.isWrapper; first | (rw [if_pos (by decide +kernel)]; kernel_rfl) | (rw [if_neg (by decide +kernel)]; exact ⟨rfl, rfl⟩))
    (fun os started H enc _ => lifted os started H enc)

/-- No parameter wants a stand-in: what the card asks. -/
theorem plain (f : FuncId) (fn : Func) (hf : Tryd.pinned.checked.prog.funcNamed "midden/middenlaw06.TreeBlanks" = some f) (hfn : Tryd.pinned.checked.prog.funcs[f]? = some fn) :
    true = Tryd.pinned.checked.prog.looks [] ∧ ∀ (j : Nat) t, fn.params[j]? = some t → Tryd.pinned.checked.prog.wantsStandIn t = false := by
  obtain rfl : f = 5 := Option.some.inj ((show Tryd.prog.funcNamed "midden/middenlaw06.TreeBlanks" = some 5 by kernel_rfl).symm.trans hf) |>.symm
  obtain rfl : fn = Tryd.f5 := (Option.some.inj (Tryd.func5.symm.trans hfn)).symm
  refine ⟨by kernel_rfl, fun j t ht => ?_⟩
  rw [Tryd.params5] at ht
  have hm : t ∈ [9] := by simpa using Array.mem_of_getElem? ht
  have hall : ([9].all fun u => !Tryd.prog.wantsStandIn u) = true := by kernel_rfl
  exact (show Tryd.prog.wantsStandIn t = false by simpa using List.all_eq_true.1 hall t hm)

theorem card : Rows.TreeBlanksCardSaid :=
  Claim7.holds_tied_plain_at .later [] _ _ _ _ said (fun _ h => by cases h) (by kernel_rfl) (fun _ h => by cases h) treeBlanks_row_tie rfl ⟨rfl, rfl⟩ (by kernel_rfl) rfl plain (by kernel_rfl)
end Go.Proofs.YtoedeedoecdajaaDoor.treeBlanks

namespace Go.Proofs.YtoedeedoecdajaaDoor
theorem treeBlanks_card : Rows.TreeBlanksCardSaid := treeBlanks.card
#print axioms treeBlanks_card
end Go.Proofs.YtoedeedoecdajaaDoor
