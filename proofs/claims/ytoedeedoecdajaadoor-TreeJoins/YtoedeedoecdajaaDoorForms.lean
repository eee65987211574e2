/- Package tree's parser: forms and binds, by the contract of expressions. -/
import Derived.Test.YtoedeedoecdajaaDoorCall
import Derived.Deep.Cut
namespace Go.Proofs.YtoedeedoecdajaaDoor
open Go.RowKit
set_option linter.unusedVariables false
set_option linter.unusedSimpArgs false

def ExpOK (d : Nat) : Prop := ∀ (k : Int), k = 61 - d → ∀ (w : World) (b : Nat) (l : List Tok) (n : Int), Rd w b l n 0 → Calls Tryd.prog 77 #[ptr b, .int .i64 k] w (Ans b n w isEV (pExp d l))
/-- eight cells, written out -/
theorem isE_eight {w : World} {ok : Nat → Prop} {x : E} {c : List Value} (h : isE w ok x c) : ∃ (k a m : Int) (s : ByteArray) (g4 g5 g6 g7 : Option Addr) (n4 n5 n6 n7 c4 c5 c6 c7 : Nat),
    c = [.int .i64 k, .int .i64 a, .string s, .int .i64 m, .slice g4 n4 c4, .slice g5 n5 c5, .slice g6 n6 c6, .slice g7 n7 c7] := by
  obtain ⟨k, a, n, m, ts, bs, ks, al⟩ := x
  simp only [isE] at h
  obtain ⟨vt, vb, vk, va, xb, xk, xa, rfl, ⟨_, _, rfl, _⟩, ⟨_, _, rfl, _⟩, _, ⟨_, _, rfl, _⟩, _, ⟨_, _, rfl, _⟩, _⟩ := h
  exact ⟨_, _, _, _, _, _, _, _, _, _, _, _, _, _, _, _, rfl⟩
/-- a form: arguments, body -/
def isFV (w : World) (ok : Nat → Prop) (f : List (List UInt8) × E) (v : Value) : Prop := ∃ va c, v = .agg (va :: c).toArray ∧ IsRow w ok (strC f.1) f.1.length va ∧ isE w ok f.2 c
def pForm (ex : List Tok → PR E) (l : List Tok) : PR (List (List UInt8) × E) := andT (pArgs l) fun ns r => andT (ex r) fun x r => .ok ((ns, x), r)
theorem andT_assoc {α β γ : Type} (p : PR α) (f : α → List Tok → PR β) (g : β → List Tok → PR γ) : andT (andT p f) g = andT p fun a r => andT (f a r) g := by
  rcases p with e | ⟨a, r⟩ <;> rfl
theorem pBind_form (ex : List Tok → PR E) (l : List Tok) : pBind ex l = andT (pKind 1 l) fun t r => andT (pWant [61] r) fun _ r => andT (pForm ex r) fun f r => andT (pWant [59] r) fun _ r => .ok (.mk t.text t.at' f.1 f.2, r) := by
  unfold pBind pForm
  simp only [andT_assoc]
  rfl
theorem size49 : (Tryd.prog.info? 49).map (·.size) = some 9 := by kernel_rfl
theorem pWant_cases (s : List UInt8) (l : List Tok) : (∃ t r, l = t :: r ∧ isS s l = true ∧ pWant s l = .ok ((), r)) ∨ (isS s l = false ∧ pWant s l = .error (23, l)) := by
  cases h : isS s l with
  | true =>
    cases l with
    | nil => cases h
    | cons t r => exact .inl ⟨t, r, rfl, rfl, by simp [pWant, h]⟩
  | false => exact .inr ⟨rfl, by simp [pWant, h]⟩
theorem keeps_fr {b : Nat} {ok ok' : Nat → Prop} {w w' : World} (h : Fr b w w') (hne : ∀ g, ok g → g ≠ b) (ho : ∀ g, ok g → ok' g) : Keeps ok ok' w w' :=
  keeps_grown h (fun g hg e => hne g hg (by cases e; rfl)) ho

/-- what a call has made is there still when the result's block is written -/
theorem keeps_set {w w1 w2 : World} {M : Nat} {cs : Array Value} (h1 : M < w1.heap.size) (h2 : w.heap.size ≤ w1.heap.size) : Keeps (new w1 w2) (new w (w2.setRow M cs)) w2 (w2.setRow M cs) :=
  keeps_grown (grown_setRow w2 M cs) (fun g hg e => by cases e; have := hg.1; omega) (fun g hg => ⟨by have := hg.1; omega, by rw [size_setRow]; exact hg.2⟩)
theorem Fr.setRow {b : Nat} {w w1 : World} (h : Fr b w w1) {M : Nat} (hM : w.heap.size ≤ M) (cs : Array Value) : Fr b w (w1.setRow M cs) := h.grown (grown_setRow w1 M cs) (fun i e => by cases e; exact hM)
theorem Rd.setRow {w : World} {b : Nat} {l : List Tok} {n e : Int} (h : Rd w b l n e) {M : Nat} (hM : b < M) (cs : Array Value) : Rd (w.setRow M cs) b l n e := h.kept (grown_setRow w M cs) (fun i e => by cases e; exact hM)

set_option maxRecDepth 100000 in
set_option maxHeartbeats 4000000 in
theorem form_plain {d : Nat} (hE : ExpOK d) {k : Int} (hk : k = 61 - d) {w : World} {b : Nat} {l : List Tok} {n : Int} (R : Rd w b l n 0) (hs : isS [92] l = false) :
    Calls Tryd.prog 70 #[ptr b, .int .i64 k] w (Ans b n w isFV (pForm (pExp d) l)) := by
  have lt := R.lt
  have S := fun o => stands_any (R.alloc o) (s := [92]) (by decide) (by decide)
  rw [hs, show str [92] = ⟨#[92]⟩ from rfl] at S
  have X := fun o o' => hE k hk _ b l n ((R.alloc o).alloc o')
  clear hk hE
  have P : pForm (pExp d) l = andT (pExp d l) fun x r => .ok (([], x), r) := by simp [pForm, pArgs, hs, andT]
  rw [P]
  rcases hx : pExp d l with ⟨c, r⟩ | ⟨x, r⟩
  · rw [hx] at X
    simp only [andT]
    go_enter Tryd.func70, Tryd.ntmps70
    go_wp2_with (first
      | (go_at_call 35; refine (S _).mono ?_; rintro e w1 ⟨rfl, o, rfl⟩)
      | (go_at_call 77; refine (X _ _).mono ?_; rintro e w2 ⟨F2, rfl, R2⟩))
    exact ⟨rfl, Ans.err ((((Fr.refl b w).alloc _).alloc _).trans F2) R2⟩
  · rw [hx] at X
    simp only [andT]
    go_enter Tryd.func70, Tryd.ntmps70
    go_wp2_with (first
      | (go_at_call 35; refine (S _).mono ?_; rintro e w1 ⟨rfl, o, rfl⟩)
      | (go_at_call 77; refine (X _ _).mono ?_; rintro e w2 ⟨F2, v2, rfl, ⟨c, rfl, E2⟩, R2⟩; obtain ⟨k', a', m', s', g4, g5, g6, g7, n4, n5, n6, n7, c4, c5, c6, c7, rfl⟩ := isE_eight E2; have M2 := ((Blk.fresh w #[nil3, .int .i64 0, .int .i64 0, .string ⟨#[]⟩, .int .i64 0, nil3, nil3, nil3, nil3] 49).alloc o).kept F2 (fun e => by cases e; omega); have HE : Hid (isE _ _ _ _) := ⟨E2⟩; clear E2)
      | (refine wpList_store_row rfl 49 _ _ rfl w.heap.size _ rfl rfl 49 _ M2 size49 rfl (by simp [Value.oneCell']) ?_))
    refine bodyPost_ret (results_cell_row Tryd.results70 _ _ w.heap.size 49 _ (0, 0) _ rfl M2.set Tryd.underlying49 rfl size49) rfl (Ans.ok (((((Fr.refl b w).alloc _).alloc _).trans F2).setRow (Nat.le_refl _) _) (R2.setRow lt _) ?_)
    exact ⟨nil3, _, rfl, isRow_nil _ _ _, isE_keeps (keeps_set (by simp; omega) (by simp; omega)) x _ HE.out⟩

theorem pNames_len : ∀ l : List Tok, (pNames l).1.length ≤ l.length
  | [] => Nat.le_refl _
  | t :: r => by
    unfold pNames
    have := pNames_len r
    split <;> simp only [List.length_cons, List.length_nil] <;> omega
theorem own_some {W : World} {base size m : Nat} {e : TypeId} {v : Value} {xs : List Value} (h : W.ownsRow base e size v m xs) (hm : 0 < m) : ∃ g cap, v = .slice (some ⟨g, 0, none⟩) m cap ∧ ∀ j u, xs[j]? = some u → W.cell? ((⟨g, 0, none⟩ : Addr).add j) = some u := by
  rcases h.2 with ⟨rfl, h0⟩ | ⟨g, cap, cur, rfl, _⟩
  · omega
  · exact ⟨g, cap, rfl, h.cells rfl⟩
theorem own_lit {w w3 : World} {X : Nat} (hX : X < w3.heap.size) (v : Value) (t : TypeId) : (w3.alloc (.cells #[v] t)).ownsRow (X + 1) t 1 (.slice (some ⟨w3.heap.size, 0, none⟩) 1 1) 1 [v] :=
  ⟨rfl, .inr ⟨w3.heap.size, 1, #[v], rfl, hX, heap_alloc_new w3 _, Nat.le_refl _, by decide, rfl, rfl⟩⟩

set_option maxRecDepth 100000 in
set_option maxHeartbeats 4000000 in
theorem form_args {d : Nat} (hE : ExpOK d) {k : Int} (hk : k = 61 - d) {w : World} {b : Nat} {l : List Tok} {n : Int} (R : Rd w b l n 0) (hs : isS [92] l = true) :
    Calls Tryd.prog 70 #[ptr b, .int .i64 k] w (Ans b n w isFV (pForm (pExp d) l)) := by
  have lt := R.lt
  cases l with
  | nil => cases hs
  | cons t0 r0 =>
  have S := fun o => stands_any (R.alloc o) (s := [92]) (by decide) (by decide)
  have P1 := fun o o' => pass_any ((R.alloc o).alloc o') (s := [92]) (by decide) (by decide)
  have e1 : pWant [92] (t0 :: r0) = .ok ((), r0) := by simp [pWant, hs]
  rw [hs, show str [92] = ⟨#[92]⟩ from rfl] at S
  simp only [e1] at P1
  rw [show str [92] = ⟨#[92]⟩ from rfl] at P1
  have P : pForm (pExp d) (t0 :: r0) = andT (pKind 1 r0) fun t r => andT (pWant [45, 62] (pNames r).2) fun _ r2 => andT (pExp d r2) fun x q => .ok ((t.text :: (pNames r).1, x), q) := by
    simp only [pForm, pArgs, hs, if_true, andT_assoc, List.tail_cons]
    rfl
  rw [P]
  have len := R.len
  clear P e1 R
  have HEX : Hid (ExpOK d) := ⟨hE⟩
  have HK : Hid (k = 61 - d) := ⟨hk⟩
  clear hk hE
  rcases pKind_cases 1 r0 with ⟨t, r, rfl, tk, h1⟩ | h1
  · rw [h1]
    have hN : (pNames r).1.length ≤ 16384 := by have := pNames_len r; simp only [List.length_cons] at len; omega
    simp only [andT]
    rcases pWant_cases [45, 62] (pNames r).2 with ⟨t2, r2, h2, _, h2'⟩ | ⟨_, h2'⟩
    · rw [h2']
      simp only
      rcases hx : pExp d r2 with ⟨c, r3⟩ | ⟨x, r3⟩
      · by_cases hn : (pNames r).1 = []
        · go_enter Tryd.func70, Tryd.ntmps70
          go_wp2_with (first
            | (go_at_call 35; refine (S _).mono ?_; rintro e w1 ⟨rfl, o, rfl⟩)
            | (go_at_call_of 68 (Value.string { data := #[92] }); refine (P1 _ _).mono ?_; rintro e w2 ⟨F2, v2, rfl, rfl, R2⟩; have M2 := ((Blk.fresh w #[nil3, .int .i64 0, .int .i64 0, .string ⟨#[]⟩, .int .i64 0, nil3, nil3, nil3, nil3] 49).alloc o).kept F2 (fun e => by cases e; omega); have F2' := (((Fr.refl b w).alloc _).alloc _).trans F2; clear F2; have T := takeName_any R2; rw [h1] at T)
            | (go_at_call 78; refine T.mono ?_; rintro e w3 ⟨F3, v3, rfl, rfl, R3⟩; have M3 := M2.kept F3 (fun e => by cases e; omega); have F3' := F2'.trans F3; have NM := fun o => names_any (R3.alloc o); have OW3 := own_lit (w := w) (X := w.heap.size) M3.lt (.string (str t.text)) 9; clear F3 T)
            | (go_at_call 79; refine (NM _).mono ?_; rintro e w4 ⟨v4, rfl, F4, R4, O4, Z4⟩; have M4 := (M3.alloc _).kept F4 (fun e => by cases e; omega); have F4' := (F3'.alloc _).trans F4; have OW4 := own_call OW3 F4 (Nat.le_of_lt lt); obtain rfl := Z4 hn; have W5 : ∃ w5, w5 = w4 := ⟨_, rfl⟩; have M5 := M4; have F5 := F4'; have R5 := R4; have OW5 : Hid (w4.ownsRow (w.heap.size + 1) 9 1 (.slice (some ⟨w3.heap.size, 0, none⟩) 1 1) ((pNames r).1.length + 1) (.string (str t.text) :: strC (pNames r).1)) := ⟨by rw [hn]; exact OW4⟩; have PW := pass_any R5 (s := [45, 62]) (by decide) (by decide); rw [h2', show str [45, 62] = ⟨#[45, 62]⟩ from rfl] at PW; clear F4 O4 Z4 OW4 NM)
            | (go_at_call_of 68 (Value.string { data := #[45, 62] }); refine PW.mono ?_; rintro e w6 ⟨F6, v6, rfl, rfl, R6⟩; have X := HEX.out k HK.out _ b r2 n R6; rw [hx] at X)
            | (go_at_call 77; refine X.mono ?_; rintro e w7 ⟨F7, rfl, R7⟩))
          exact ⟨rfl, Ans.err ((F5.trans F6).trans F7) R7⟩
        · have hn : (pNames r).1.length ≠ 0 := fun z => hn (List.eq_nil_of_length_eq_zero z)
          obtain ⟨i0, hi, hz0, hz1, hz2⟩ := info_parts info9
          go_enter Tryd.func70, Tryd.ntmps70
          go_wp2_with (first
            | (go_at_call 35; refine (S _).mono ?_; rintro e w1 ⟨rfl, o, rfl⟩)
            | (go_at_call_of 68 (Value.string { data := #[92] }); refine (P1 _ _).mono ?_; rintro e w2 ⟨F2, v2, rfl, rfl, R2⟩; have M2 := ((Blk.fresh w #[nil3, .int .i64 0, .int .i64 0, .string ⟨#[]⟩, .int .i64 0, nil3, nil3, nil3, nil3] 49).alloc o).kept F2 (fun e => by cases e; omega); have F2' := (((Fr.refl b w).alloc _).alloc _).trans F2; clear F2; have T := takeName_any R2; rw [h1] at T)
            | (go_at_call 78; refine T.mono ?_; rintro e w3 ⟨F3, v3, rfl, rfl, R3⟩; have M3 := M2.kept F3 (fun e => by cases e; omega); have F3' := F2'.trans F3; have NM := fun o => names_any (R3.alloc o); have OW3 := own_lit (w := w) (X := w.heap.size) M3.lt (.string (str t.text)) 9; clear F3 T)
            | (go_at_call 79; refine (NM _).mono ?_; rintro e w4 ⟨v4, rfl, F4, R4, O4, Z4⟩; have M4 := (M3.alloc _).kept F4 (fun e => by cases e; omega); have F4' := (F3'.alloc _).trans F4; have OW4 := own_call OW3 F4 (Nat.le_of_lt lt); obtain ⟨g4, cap4, rfl, cs4⟩ := own_some O4 (Nat.pos_of_ne_zero hn); clear Z4 NM)
            | (at_builtin; refine wpList_append_own _ rfl _ _ 47 rfl (w.heap.size + 1) 9 i0 _ 1 16 Tryd.underlying47 hi hz0 hz1 hz2 rfl (by decide) (.slice (some ⟨w3.heap.size, 0, none⟩) 1 1) 1 [.string (str t.text)] rfl OW4 ⟨g4, 0, none⟩ (pNames r).1.length cap4 (strC (pNames r).1) rfl (by simp [strC]) cs4 (by simp [strC, Value.oneCell']) (by unfold maxLen; omega) (by omega) M4.lt ?_; intro v5 w5 ho hg _; have M5 := M4.kept hg (by simp [Value.ownBlock]; have := M3.lt; omega); have F5 := F4'.grown hg (fun i e => by have := (OW4.lt i e).1; omega); have R5 := R4.kept hg (fun i e => by have := (OW4.lt i e).1; omega); rw [Nat.add_comm 1] at ho; obtain ⟨g5, cap5, rfl⟩ := own_form ho; have OW5 : Hid (w5.ownsRow (w.heap.size + 1) 9 1 (.slice g5 ((pNames r).1.length + 1) cap5) ((pNames r).1.length + 1) (.string (str t.text) :: strC (pNames r).1)) := ⟨ho⟩; have PW := pass_any R5 (s := [45, 62]) (by decide) (by decide); rw [h2', show str [45, 62] = ⟨#[45, 62]⟩ from rfl] at PW; clear ho hg F4 OW4 cs4 hi hz0 hz1 hz2)
            | (go_at_call_of 68 (Value.string { data := #[45, 62] }); refine PW.mono ?_; rintro e w6 ⟨F6, v6, rfl, rfl, R6⟩; have X := HEX.out k HK.out _ b r2 n R6; rw [hx] at X)
            | (go_at_call 77; refine X.mono ?_; rintro e w7 ⟨F7, rfl, R7⟩))
          exact ⟨rfl, Ans.err ((F5.trans F6).trans F7) R7⟩
      · by_cases hn : (pNames r).1 = []
        · go_enter Tryd.func70, Tryd.ntmps70
          go_wp2_with (first
            | (go_at_call 35; refine (S _).mono ?_; rintro e w1 ⟨rfl, o, rfl⟩)
            | (go_at_call_of 68 (Value.string { data := #[92] }); refine (P1 _ _).mono ?_; rintro e w2 ⟨F2, v2, rfl, rfl, R2⟩; have M2 := ((Blk.fresh w #[nil3, .int .i64 0, .int .i64 0, .string ⟨#[]⟩, .int .i64 0, nil3, nil3, nil3, nil3] 49).alloc o).kept F2 (fun e => by cases e; omega); have F2' := (((Fr.refl b w).alloc _).alloc _).trans F2; clear F2; have T := takeName_any R2; rw [h1] at T)
            | (go_at_call 78; refine T.mono ?_; rintro e w3 ⟨F3, v3, rfl, rfl, R3⟩; have M3 := M2.kept F3 (fun e => by cases e; omega); have F3' := F2'.trans F3; have NM := fun o => names_any (R3.alloc o); have OW3 := own_lit (w := w) (X := w.heap.size) M3.lt (.string (str t.text)) 9; clear F3 T)
            | (go_at_call 79; refine (NM _).mono ?_; rintro e w4 ⟨v4, rfl, F4, R4, O4, Z4⟩; have M4 := (M3.alloc _).kept F4 (fun e => by cases e; omega); have F4' := (F3'.alloc _).trans F4; have OW4 := own_call OW3 F4 (Nat.le_of_lt lt); obtain rfl := Z4 hn; have W5 : ∃ w5, w5 = w4 := ⟨_, rfl⟩; have M5 := M4; have F5 := F4'; have R5 := R4; have OW5 : Hid (w4.ownsRow (w.heap.size + 1) 9 1 (.slice (some ⟨w3.heap.size, 0, none⟩) 1 1) ((pNames r).1.length + 1) (.string (str t.text) :: strC (pNames r).1)) := ⟨by rw [hn]; exact OW4⟩; have PW := pass_any R5 (s := [45, 62]) (by decide) (by decide); rw [h2', show str [45, 62] = ⟨#[45, 62]⟩ from rfl] at PW; clear F4 O4 Z4 OW4 NM)
            | (go_at_call_of 68 (Value.string { data := #[45, 62] }); refine PW.mono ?_; rintro e w6 ⟨F6, v6, rfl, rfl, R6⟩; have X := HEX.out k HK.out _ b r2 n R6; rw [hx] at X)
            | (go_at_call 77; refine X.mono ?_; rintro e w7 ⟨F7, v7, rfl, ⟨c, rfl, E7⟩, R7⟩; obtain ⟨k', a', m', s', g4', g5', g6', g7', n4, n5, n6, n7, c4, c5, c6, c7, rfl⟩ := isE_eight E7; have M7 := (M5.kept F6 (fun e => by cases e; omega)).kept F7 (fun e => by cases e; omega); have HE : Hid (isE _ _ _ _) := ⟨E7⟩; clear E7)
            | (refine wpList_store_row rfl 49 _ _ rfl w.heap.size _ rfl rfl 49 _ M7 size49 rfl (by simp [Value.oneCell']) ?_))
          refine bodyPost_ret (results_cell_row Tryd.results70 _ _ w.heap.size 49 _ (0, 0) _ rfl M7.set Tryd.underlying49 rfl size49) rfl (Ans.ok (((F5.trans F6).trans F7).setRow (Nat.le_refl _) _) (R7.setRow lt _) ?_)
          refine ⟨_, _, rfl, ?_, isE_keeps (keeps_set (by have := F5.size; have := F6.size; have := M5.lt; omega) (by have := F5.size; have := F6.size; omega)) x _ HE.out⟩
          have OW7 := own_kept (own_call (own_call OW5.out F6 (Nat.le_of_lt lt)) F7 (Nat.le_of_lt lt)) (grown_setRow w7 w.heap.size #[.slice (some ⟨w3.heap.size, 0, none⟩) 1 1, .int .i64 k', .int .i64 a', .string s', .int .i64 m', .slice g4' n4 c4, .slice g5' n5 c5, .slice g6' n6 c6, .slice g7' n7 c7]) (Nat.le_refl _)
          exact own_new OW7 (Nat.le_refl _) (by simp only [List.length_cons]; omega)
        · have hn : (pNames r).1.length ≠ 0 := fun z => hn (List.eq_nil_of_length_eq_zero z)
          obtain ⟨i0, hi, hz0, hz1, hz2⟩ := info_parts info9
          go_enter Tryd.func70, Tryd.ntmps70
          go_wp2_with (first
            | (go_at_call 35; refine (S _).mono ?_; rintro e w1 ⟨rfl, o, rfl⟩)
            | (go_at_call_of 68 (Value.string { data := #[92] }); refine (P1 _ _).mono ?_; rintro e w2 ⟨F2, v2, rfl, rfl, R2⟩; have M2 := ((Blk.fresh w #[nil3, .int .i64 0, .int .i64 0, .string ⟨#[]⟩, .int .i64 0, nil3, nil3, nil3, nil3] 49).alloc o).kept F2 (fun e => by cases e; omega); have F2' := (((Fr.refl b w).alloc _).alloc _).trans F2; clear F2; have T := takeName_any R2; rw [h1] at T)
            | (go_at_call 78; refine T.mono ?_; rintro e w3 ⟨F3, v3, rfl, rfl, R3⟩; have M3 := M2.kept F3 (fun e => by cases e; omega); have F3' := F2'.trans F3; have NM := fun o => names_any (R3.alloc o); have OW3 := own_lit (w := w) (X := w.heap.size) M3.lt (.string (str t.text)) 9; clear F3 T)
            | (go_at_call 79; refine (NM _).mono ?_; rintro e w4 ⟨v4, rfl, F4, R4, O4, Z4⟩; have M4 := (M3.alloc _).kept F4 (fun e => by cases e; omega); have F4' := (F3'.alloc _).trans F4; have OW4 := own_call OW3 F4 (Nat.le_of_lt lt); obtain ⟨g4, cap4, rfl, cs4⟩ := own_some O4 (Nat.pos_of_ne_zero hn); clear Z4 NM)
            | (at_builtin; refine wpList_append_own _ rfl _ _ 47 rfl (w.heap.size + 1) 9 i0 _ 1 16 Tryd.underlying47 hi hz0 hz1 hz2 rfl (by decide) (.slice (some ⟨w3.heap.size, 0, none⟩) 1 1) 1 [.string (str t.text)] rfl OW4 ⟨g4, 0, none⟩ (pNames r).1.length cap4 (strC (pNames r).1) rfl (by simp [strC]) cs4 (by simp [strC, Value.oneCell']) (by unfold maxLen; omega) (by omega) M4.lt ?_; intro v5 w5 ho hg _; have M5 := M4.kept hg (by simp [Value.ownBlock]; have := M3.lt; omega); have F5 := F4'.grown hg (fun i e => by have := (OW4.lt i e).1; omega); have R5 := R4.kept hg (fun i e => by have := (OW4.lt i e).1; omega); rw [Nat.add_comm 1] at ho; obtain ⟨g5, cap5, rfl⟩ := own_form ho; have OW5 : Hid (w5.ownsRow (w.heap.size + 1) 9 1 (.slice g5 ((pNames r).1.length + 1) cap5) ((pNames r).1.length + 1) (.string (str t.text) :: strC (pNames r).1)) := ⟨ho⟩; have PW := pass_any R5 (s := [45, 62]) (by decide) (by decide); rw [h2', show str [45, 62] = ⟨#[45, 62]⟩ from rfl] at PW; clear ho hg F4 OW4 cs4 hi hz0 hz1 hz2)
            | (go_at_call_of 68 (Value.string { data := #[45, 62] }); refine PW.mono ?_; rintro e w6 ⟨F6, v6, rfl, rfl, R6⟩; have X := HEX.out k HK.out _ b r2 n R6; rw [hx] at X)
            | (go_at_call 77; refine X.mono ?_; rintro e w7 ⟨F7, v7, rfl, ⟨c, rfl, E7⟩, R7⟩; obtain ⟨k', a', m', s', g4', g5', g6', g7', n4, n5, n6, n7, c4, c5, c6, c7, rfl⟩ := isE_eight E7; have M7 := (M5.kept F6 (fun e => by cases e; omega)).kept F7 (fun e => by cases e; omega); have HE : Hid (isE _ _ _ _) := ⟨E7⟩; clear E7)
            | (refine wpList_store_row rfl 49 _ _ rfl w.heap.size _ rfl rfl 49 _ M7 size49 rfl (by simp [Value.oneCell']) ?_))
          refine bodyPost_ret (results_cell_row Tryd.results70 _ _ w.heap.size 49 _ (0, 0) _ rfl M7.set Tryd.underlying49 rfl size49) rfl (Ans.ok (((F5.trans F6).trans F7).setRow (Nat.le_refl _) _) (R7.setRow lt _) ?_)
          refine ⟨_, _, rfl, ?_, isE_keeps (keeps_set (by have := F5.size; have := F6.size; have := M5.lt; omega) (by have := F5.size; have := F6.size; omega)) x _ HE.out⟩
          have OW7 := own_kept (own_call (own_call OW5.out F6 (Nat.le_of_lt lt)) F7 (Nat.le_of_lt lt)) (grown_setRow w7 w.heap.size #[.slice g5 ((pNames r).1.length + 1) cap5, .int .i64 k', .int .i64 a', .string s', .int .i64 m', .slice g4' n4 c4, .slice g5' n5 c5, .slice g6' n6 c6, .slice g7' n7 c7]) (Nat.le_refl _)
          exact own_new OW7 (Nat.le_refl _) (by simp only [List.length_cons]; omega)
    · rw [h2']
      simp only
      by_cases hn : (pNames r).1 = []
      · go_enter Tryd.func70, Tryd.ntmps70
        go_wp2_with (first
          | (go_at_call 35; refine (S _).mono ?_; rintro e w1 ⟨rfl, o, rfl⟩)
          | (go_at_call_of 68 (Value.string { data := #[92] }); refine (P1 _ _).mono ?_; rintro e w2 ⟨F2, v2, rfl, rfl, R2⟩; have M2 := ((Blk.fresh w #[nil3, .int .i64 0, .int .i64 0, .string ⟨#[]⟩, .int .i64 0, nil3, nil3, nil3, nil3] 49).alloc o).kept F2 (fun e => by cases e; omega); have F2' := (((Fr.refl b w).alloc _).alloc _).trans F2; clear F2; have T := takeName_any R2; rw [h1] at T)
          | (go_at_call 78; refine T.mono ?_; rintro e w3 ⟨F3, v3, rfl, rfl, R3⟩; have M3 := M2.kept F3 (fun e => by cases e; omega); have F3' := F2'.trans F3; have NM := fun o => names_any (R3.alloc o); have OW3 := own_lit (w := w) (X := w.heap.size) M3.lt (.string (str t.text)) 9; clear F3 T)
          | (go_at_call 79; refine (NM _).mono ?_; rintro e w4 ⟨v4, rfl, F4, R4, O4, Z4⟩; have M4 := (M3.alloc _).kept F4 (fun e => by cases e; omega); have F4' := (F3'.alloc _).trans F4; have OW4 := own_call OW3 F4 (Nat.le_of_lt lt); obtain rfl := Z4 hn; have W5 : ∃ w5, w5 = w4 := ⟨_, rfl⟩; have M5 := M4; have F5 := F4'; have R5 := R4; have OW5 : Hid (w4.ownsRow (w.heap.size + 1) 9 1 (.slice (some ⟨w3.heap.size, 0, none⟩) 1 1) ((pNames r).1.length + 1) (.string (str t.text) :: strC (pNames r).1)) := ⟨by rw [hn]; exact OW4⟩; have PW := pass_any R5 (s := [45, 62]) (by decide) (by decide); rw [h2', show str [45, 62] = ⟨#[45, 62]⟩ from rfl] at PW; clear F4 O4 Z4 OW4 NM)
          | (go_at_call_of 68 (Value.string { data := #[45, 62] }); refine PW.mono ?_; rintro e w6 ⟨F6, rfl, R6⟩))
        exact ⟨rfl, Ans.err (F5.trans F6) R6⟩
      · have hn : (pNames r).1.length ≠ 0 := fun z => hn (List.eq_nil_of_length_eq_zero z)
        obtain ⟨i0, hi, hz0, hz1, hz2⟩ := info_parts info9
        go_enter Tryd.func70, Tryd.ntmps70
        go_wp2_with (first
          | (go_at_call 35; refine (S _).mono ?_; rintro e w1 ⟨rfl, o, rfl⟩)
          | (go_at_call_of 68 (Value.string { data := #[92] }); refine (P1 _ _).mono ?_; rintro e w2 ⟨F2, v2, rfl, rfl, R2⟩; have M2 := ((Blk.fresh w #[nil3, .int .i64 0, .int .i64 0, .string ⟨#[]⟩, .int .i64 0, nil3, nil3, nil3, nil3] 49).alloc o).kept F2 (fun e => by cases e; omega); have F2' := (((Fr.refl b w).alloc _).alloc _).trans F2; clear F2; have T := takeName_any R2; rw [h1] at T)
          | (go_at_call 78; refine T.mono ?_; rintro e w3 ⟨F3, v3, rfl, rfl, R3⟩; have M3 := M2.kept F3 (fun e => by cases e; omega); have F3' := F2'.trans F3; have NM := fun o => names_any (R3.alloc o); have OW3 := own_lit (w := w) (X := w.heap.size) M3.lt (.string (str t.text)) 9; clear F3 T)
          | (go_at_call 79; refine (NM _).mono ?_; rintro e w4 ⟨v4, rfl, F4, R4, O4, Z4⟩; have M4 := (M3.alloc _).kept F4 (fun e => by cases e; omega); have F4' := (F3'.alloc _).trans F4; have OW4 := own_call OW3 F4 (Nat.le_of_lt lt); obtain ⟨g4, cap4, rfl, cs4⟩ := own_some O4 (Nat.pos_of_ne_zero hn); clear Z4 NM)
          | (at_builtin; refine wpList_append_own _ rfl _ _ 47 rfl (w.heap.size + 1) 9 i0 _ 1 16 Tryd.underlying47 hi hz0 hz1 hz2 rfl (by decide) (.slice (some ⟨w3.heap.size, 0, none⟩) 1 1) 1 [.string (str t.text)] rfl OW4 ⟨g4, 0, none⟩ (pNames r).1.length cap4 (strC (pNames r).1) rfl (by simp [strC]) cs4 (by simp [strC, Value.oneCell']) (by unfold maxLen; omega) (by omega) M4.lt ?_; intro v5 w5 ho hg _; have M5 := M4.kept hg (by simp [Value.ownBlock]; have := M3.lt; omega); have F5 := F4'.grown hg (fun i e => by have := (OW4.lt i e).1; omega); have R5 := R4.kept hg (fun i e => by have := (OW4.lt i e).1; omega); rw [Nat.add_comm 1] at ho; obtain ⟨g5, cap5, rfl⟩ := own_form ho; have OW5 : Hid (w5.ownsRow (w.heap.size + 1) 9 1 (.slice g5 ((pNames r).1.length + 1) cap5) ((pNames r).1.length + 1) (.string (str t.text) :: strC (pNames r).1)) := ⟨ho⟩; have PW := pass_any R5 (s := [45, 62]) (by decide) (by decide); rw [h2', show str [45, 62] = ⟨#[45, 62]⟩ from rfl] at PW; clear ho hg F4 OW4 cs4 hi hz0 hz1 hz2)
          | (go_at_call_of 68 (Value.string { data := #[45, 62] }); refine PW.mono ?_; rintro e w6 ⟨F6, rfl, R6⟩))
        exact ⟨rfl, Ans.err (F5.trans F6) R6⟩
  · rw [h1]
    simp only [andT]
    go_enter Tryd.func70, Tryd.ntmps70
    go_wp2_with (first
          | (go_at_call 35; refine (S _).mono ?_; rintro e w1 ⟨rfl, o, rfl⟩)
          | (go_at_call_of 68 (Value.string { data := #[92] }); refine (P1 _ _).mono ?_; rintro e w2 ⟨F2, v2, rfl, rfl, R2⟩; have M2 := ((Blk.fresh w #[nil3, .int .i64 0, .int .i64 0, .string ⟨#[]⟩, .int .i64 0, nil3, nil3, nil3, nil3] 49).alloc o).kept F2 (fun e => by cases e; omega); have F2' := (((Fr.refl b w).alloc _).alloc _).trans F2; clear F2; have T := takeName_any R2; rw [h1] at T)
          | (go_at_call 78; refine T.mono ?_; rintro e w3 ⟨F3, rfl, R3⟩))
    exact ⟨rfl, Ans.err (F2'.trans F3) R3⟩

theorem form_any {d : Nat} (hE : ExpOK d) {k : Int} (hk : k = 61 - d) {w : World} {b : Nat} {l : List Tok} {n : Int} (R : Rd w b l n 0) : Calls Tryd.prog 70 #[ptr b, .int .i64 k] w (Ans b n w isFV (pForm (pExp d) l)) := by
  cases hs : isS [92] l with
  | true => exact form_args hE hk R hs
  | false => exact form_plain hE hk R hs

end Go.Proofs.YtoedeedoecdajaaDoor
