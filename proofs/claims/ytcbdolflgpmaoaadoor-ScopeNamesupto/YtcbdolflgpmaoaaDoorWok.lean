/- What must come at any rate: two small programs, checked. -/
import Derived.Test.YtcbdolflgpmaoaaDoorPcs
import Derived.Test.YtcbdolflgpmaoaaDoorWt
import Derived.Test.YtcbdolflgpmaoaaDoorPv
namespace Go.Proofs.YtcbdolflgpmaoaaDoor
open Go.RowKit
set_option linter.unusedVariables false
set_option linter.unusedSimpArgs false

abbrev fNm : Nm := [102]
def mainE : E := .mk 1 7 fNm 0 [] [] [] []
def mainB : B := .mk mainN 0 [] mainE
def oneE : E := .mk 4 0 [] 0 [] [] [] []
def fB : B := .mk fNm 0 [] oneE
theorem check_one : checkP prN tA ⟨[], [mainB]⟩ = some (7, 31) := by
  simp [checkP, datF, orF, namF, mainB, mainE, chBs, chB, argF, twiceN, chE, nameB', mainN]
theorem check_two : checkP prN tA ⟨[], [mainB, fB]⟩ = none := by
  simp [checkP, datF, orF, namF, mainB, mainE, fB, oneE, chBs, chB, argF, twiceN, chE, nameB', mainN, atmF]
theorem row_nil (w : World) (ok : Nat → Prop) (xs : List Value) : IsRow w ok xs 0 (.slice none 0 0) := ⟨none, 0, rfl, ⟨Nat.le_refl _, by omega⟩, fun h => absurd h (Nat.lt_irrefl 0)⟩
abbrev nl : Value := .slice none 0 0
abbrev mainC : Array Value := #[.string ⟨#[109, 97, 105, 110]⟩, .int .i64 0, nl, .int .i64 1, .int .i64 7, .string ⟨#[102]⟩, .int .i64 0, nl, nl, nl, nl]
abbrev fC : Array Value := #[.string ⟨#[102]⟩, .int .i64 0, nl, .int .i64 4, .int .i64 0, .string ⟨#[]⟩, .int .i64 0, nl, nl, nl, nl]
theorem is_main (w : World) (ok : Nat → Prop) : isB w ok mainB mainC.toList := by
  simp only [mainB, isB, mainE, isE]
  exact ⟨_, _, rfl, row_nil _ _ _, _, _, _, _, [], [], [], rfl, row_nil _ _ _, row_nil _ _ _, rfl, row_nil _ _ _, rfl, row_nil _ _ _, rfl⟩
theorem is_f (w : World) (ok : Nat → Prop) : isB w ok fB fC.toList := by
  simp only [fB, isB, oneE, isE]
  exact ⟨_, _, rfl, row_nil _ _ _, _, _, _, _, [], [], [], rfl, row_nil _ _ _, row_nil _ _ _, rfl, row_nil _ _ _, rfl, row_nil _ _ _, rfl⟩
theorem ok_main : okB mainB := by simp [mainB, okB, mainE, okE, okBs, okEs, okAs, maxLen, mainN]
theorem ok_f : okB fB := by simp [fB, okB, oneE, okE, okBs, okEs, okAs, maxLen]
theorem nm_main : nmB mainB = 0 := by simp [mainB, nmB, mainE, nmE, nmBs, nmEs, nmAs]
theorem nm_f : nmB fB = 0 := by simp [fB, nmB, oneE, nmE, nmBs, nmEs, nmAs]
theorem info49 : (Tryd.prog.info? 49).map (fun i => (i.zero, i.size, i.bytes)) = some (some (.agg #[.string ⟨#[]⟩, .int .i64 0, nl, .int .i64 0, .int .i64 0, .string ⟨#[]⟩, .int .i64 0, nl, nl, nl, nl]), 11, 184) := by kernel_rfl
/-- one bind in a block of its own -/
theorem one_bind {w : World} {g : Nat} {c : Array Value} {t : TypeId} (h : Bx w g c t) (ok : Nat → Prop) (hg : ok g) (cap : Nat) (hc : 1 ≤ cap) : IsRow w ok c.toList 1 (.slice (some ⟨g, 0, none⟩) 1 cap) := by
  refine ⟨_, cap, rfl, ⟨hc, by omega⟩, fun _ => ⟨g, 0, rfl, hg, fun j u hj => ?_⟩⟩
  rw [Nat.zero_add]
  rw [Bx.cell h j]
  simpa using hj
theorem check1_any (w : World) (T : Table w) (g : Nat) (h : Bx w g mainC 49) (cd cap : Nat) (hcap : 1 ≤ cap) : Calls Tryd.prog 8 #[.agg #[nl, .slice (some ⟨g, 0, none⟩) 1 cap]] w fun e w' => e = .returned (.tuple #[.int .i64 7, .int .i64 31]) ∧ Below w.heap.size w w' := by
  have := pcheck_any [] [mainB] none (some ⟨g, 0, none⟩) 0 1 0 cap mainC.toList w T (row_nil _ _ _) (one_bind h _ h.lt cap hcap) (by simp only [isBs]; exact ⟨_, _, by simp, is_main _ _, rfl⟩) rfl rfl ⟨by simp, by simp only [okBs]; exact ⟨ok_main, trivial⟩⟩ (by simp [nmBs, nm_main])
  rw [check_one] at this
  exact this
theorem check2_any (w : World) (T : Table w) (g : Option Addr) (cap : Nat) (R : IsRow w (fun g => g < w.heap.size) (mainC.toList ++ fC.toList) 2 (.slice g 2 cap)) : Calls Tryd.prog 8 #[.agg #[nl, .slice g 2 cap]] w fun e w' => e = .returned (.tuple #[.int .i64 0, .int .i64 0]) ∧ Below w.heap.size w w' := by
  have := pcheck_any [] [mainB, fB] none g 0 2 0 cap _ w T (row_nil _ _ _) R (by simp only [isBs]; exact ⟨_, _, rfl, is_main _ _, _, _, by simp, is_f _ _, rfl⟩) rfl rfl ⟨by simp, by simp only [okBs]; exact ⟨ok_main, ok_f, trivial⟩⟩ (by simp [nmBs, nm_main, nm_f])
  rw [check_two] at this
  exact this
theorem row_own {w : World} {base size n : Nat} {e : TypeId} {v : Value} {xs : List Value} {ok : Nat → Prop} (h : RowS w base e size v n xs) (ho : ∀ g, base ≤ g → g < w.heap.size → ok g) (hs : n ≤ 1000000000) : IsRow w ok xs n v := by
  rcases h with ⟨rfl, rfl, ga, rfl⟩ | h
  · exact ⟨ga, 0, rfl, ⟨Nat.le_refl _, by omega⟩, fun z => absurd z (Nat.lt_irrefl 0)⟩
  · exact row_of_owns h (fun g e => ho g (h.lt g e).1 (h.lt g e).2) hs
theorem one_cells : ∀ u ∈ fC.toList, u.oneCell' = true := by
  intro u hu
  simp only [List.mem_cons, List.not_mem_nil, or_false] at hu
  rcases hu with rfl | rfl | rfl | rfl | rfl | rfl | rfl | rfl | rfl | rfl | rfl <;> rfl
theorem grown_set (w : World) (m j : Nat) (u : Value) : w.grownBy (w.setCell ⟨m, j, none⟩ u) (some m) := ⟨rfl, rfl, rfl, by simp, fun i _ hb => setCell_block _ _ _ _ (fun e => hb (by rw [e]))⟩
theorem awk_end {w w4 w6 : World} {g cap : Nat} {o : Obj} {xs : List Value} (B4 : Below w.heap.size w w4) (A4 : Below w4.heap.size w4 (w4.alloc o)) (gr6 : (w4.alloc o).grownBy w6 (Value.slice (some ⟨w.heap.size + 1, 0, none⟩) 1 1).ownBlock)
    (ow6 : w6.ownsRow w.heap.size 49 11 (.slice (some ⟨g, 0, none⟩) (1 + 1) cap) (1 + 1) xs) (hg6 : (Value.slice (some ⟨w.heap.size + 1, 0, none⟩) 1 1).ownBlock = some g ∨ g = (w4.alloc o).heap.size) (l1 : w.heap.size + 1 < w4.heap.size) (l2 : w.heap.size + 2 < w4.heap.size) (T : Table w) :
    Below w.heap.size w (w6.setCell ⟨w.heap.size + 1 + 1, 1, none⟩ (.slice (some ⟨g, 0, none⟩) 2 cap)) ∧ Table (w6.setCell ⟨w.heap.size + 1 + 1, 1, none⟩ (.slice (some ⟨g, 0, none⟩) 2 cap)) ∧
      IsRow (w6.setCell ⟨w.heap.size + 1 + 1, 1, none⟩ (.slice (some ⟨g, 0, none⟩) 2 cap)) (fun q => q < (w6.setCell ⟨w.heap.size + 1 + 1, 1, none⟩ (.slice (some ⟨g, 0, none⟩) 2 cap)).heap.size) xs 2 (.slice (some ⟨g, 0, none⟩) 2 cap) := by
  have s4 := A4.size
  have b6 : Below w.heap.size w w6 := (B4.trans (Joins.below_le A4 (by omega))).grown gr6 (by omega) (fun k e => by have e' : w.heap.size + 1 = k := Option.some.inj e; omega)
  have b7 : Below w.heap.size w (w6.setCell ⟨w.heap.size + 1 + 1, 1, none⟩ (.slice (some ⟨g, 0, none⟩) 2 cap)) := b6.grown (grown_set w6 (w.heap.size + 1 + 1) 1 _) b6.size (fun k e => by have e' : w.heap.size + 1 + 1 = k := Option.some.inj e; omega)
  refine ⟨b7, T.later b7, ?_⟩
  have gne : g ≠ w.heap.size + 1 + 1 := by
    rcases hg6 with e | e
    · have e' : w.heap.size + 1 = g := Option.some.inj e
      omega
    · rw [World.size_alloc] at e; omega
  have ow7 := ow6.kept (grown_set w6 (w.heap.size + 1 + 1) 1 (.slice (some ⟨g, 0, none⟩) 2 cap)) (.inr (fun e => gne (Option.some.inj e)))
  exact row_of_owns ow7 (fun q hq => (ow7.lt q hq).2) (by omega)
set_option maxRecDepth 100000 in
set_option maxHeartbeats 4000000 in
theorem awake_any (w : World) (T : Table w) : Calls Tryd.prog 10 #[] w fun e w' => e = .returned (.bool true) ∧ Below w.heap.size w w' := by
  have K1 := Joins.below_alloc1 w (.cells #[.int .i64 1, .int .i64 7, .string ⟨#[102]⟩, .int .i64 0, nl, nl, nl, nl] 45)
  have X1 : Bx (w.alloc (.cells #[.int .i64 1, .int .i64 7, .string ⟨#[102]⟩, .int .i64 0, nl, nl, nl, nl] 45)) w.heap.size #[.int .i64 1, .int .i64 7, .string ⟨#[102]⟩, .int .i64 0, nl, nl, nl, nl] 45 := heap_alloc_new w _
  have K2 := K1.alloc K1.size (.cells mainC 49)
  have X2 : Bx ((w.alloc (.cells #[.int .i64 1, .int .i64 7, .string ⟨#[102]⟩, .int .i64 0, nl, nl, nl, nl] 45)).alloc (.cells mainC 49)) (w.heap.size + 1) mainC 49 := by have := heap_alloc_new (w.alloc (.cells #[.int .i64 1, .int .i64 7, .string ⟨#[102]⟩, .int .i64 0, nl, nl, nl, nl] 45)) (.cells mainC 49); rwa [World.size_alloc] at this
  have K3 := K2.alloc K2.size (.cells #[nl, .slice (some ⟨w.heap.size + 1, 0, none⟩) 1 1] 25)
  have X3 : Bx (((w.alloc (.cells #[.int .i64 1, .int .i64 7, .string ⟨#[102]⟩, .int .i64 0, nl, nl, nl, nl] 45)).alloc (.cells mainC 49)).alloc (.cells #[nl, .slice (some ⟨w.heap.size + 1, 0, none⟩) 1 1] 25)) (w.heap.size + 2) #[nl, .slice (some ⟨w.heap.size + 1, 0, none⟩) 1 1] 25 := by have := heap_alloc_new ((w.alloc (.cells #[.int .i64 1, .int .i64 7, .string ⟨#[102]⟩, .int .i64 0, nl, nl, nl, nl] 45)).alloc (.cells mainC 49)) (.cells #[nl, .slice (some ⟨w.heap.size + 1, 0, none⟩) 1 1] 25); rwa [World.size_alloc, World.size_alloc] at this
  have X23 : Bx (((w.alloc (.cells #[.int .i64 1, .int .i64 7, .string ⟨#[102]⟩, .int .i64 0, nl, nl, nl, nl] 45)).alloc (.cells mainC 49)).alloc (.cells #[nl, .slice (some ⟨w.heap.size + 1, 0, none⟩) 1 1] 25)) (w.heap.size + 1) mainC 49 := ((Joins.below_alloc1 ((w.alloc (.cells #[.int .i64 1, .int .i64 7, .string ⟨#[102]⟩, .int .i64 0, nl, nl, nl, nl] 45)).alloc (.cells mainC 49)) _).block _ X2.lt).trans X2
  have C1 := check1_any _ (T.later K3) (w.heap.size + 1) X23 0 1 (Nat.le_refl _)
  have HX := Hid.mk (And.intro K3 (And.intro X23 X3))
  have a0 := X1.cell 0
  have a1 := X1.cell 1
  have a2 := X1.cell 2
  have a3 := X1.cell 3
  have a4 := X1.cell 4
  have a5 := X1.cell 5
  have a6 := X1.cell 6
  have a7 := X1.cell 7
  have b0 := X3.cell 0
  have b1 := X3.cell 1
  have HT := Hid.mk T
  obtain ⟨i0, hi, hz0, hz1, hz2⟩ := info_parts info49
  clear K1 K2 K3 X1 X2 X3 X23 T
  go_enter Tryd.func10, Tryd.ntmps10
  go_wp2_with (first
    | (go_at_call 8; refine C2.mono ?_; rintro e w9 ⟨rfl, B9⟩; have HE := Hid.mk B9; clear B9 C2)
    | (go_at_call 8; refine C1.mono ?_; rintro e w4 ⟨rfl, B4⟩; have HB4 := Hid.mk (HX.out.1.trans (Joins.below_le B4 HX.out.1.size)); have XX := Hid.mk (show Bx w4 (w.heap.size + 1) mainC 49 from (B4.block _ HX.out.2.1.lt).trans HX.out.2.1); have XP := Hid.mk (show Bx w4 (w.heap.size + 2) #[nl, .slice (some ⟨w.heap.size + 1, 0, none⟩) 1 1] 25 from (B4.block _ HX.out.2.2.lt).trans HX.out.2.2); have d0 := XP.out.cell 0; have d1 := XP.out.cell 1; have HA4 : Hid (Below w4.heap.size w4 (w4.alloc (.cells fC 49))) := ⟨Joins.below_alloc1 w4 _⟩; have own4 : Hid ((w4.alloc (.cells fC 49)).ownsRow w.heap.size 49 11 (.slice (some ⟨w.heap.size + 1, 0, none⟩) 1 1) 1 mainC.toList) := ⟨⟨rfl, .inr ⟨w.heap.size + 1, 1, mainC, rfl, by omega, (HA4.out.block _ XX.out.lt).trans XX.out, Nat.le_refl _, by decide, rfl, rfl⟩⟩⟩; have new4 : Hid (∀ j u, fC.toList[j]? = some u → (w4.alloc (.cells fC 49)).cell? ((⟨w4.heap.size, 0, none⟩ : Addr).add j) = some u) := ⟨World.news_of_block (heap_alloc_new w4 _)⟩; clear B4 C1)
    | (at_builtin; refine wpList_append_lies _ rfl _ _ 23 rfl w.heap.size 49 i0 _ 11 184 Tryd.underlying23 hi hz0 hz1 hz2 rfl (by decide) (.slice (some ⟨w.heap.size + 1, 0, none⟩) 1 1) 1 mainC.toList rfl own4.out ⟨w4.heap.size, 0, none⟩ 1 1 fC.toList rfl rfl new4.out one_cells (by decide) (by decide) (by decide) (Nat.le_trans HB4.out.size HA4.out.size) _ rfl ?_; intro g cap w6 ow6 gr6 hg6 lt6; have XP6 := Hid.mk (show Bx w6 (w.heap.size + 2) #[nl, .slice (some ⟨w.heap.size + 1, 0, none⟩) 1 1] 25 from (gr6.block _ (Nat.lt_of_lt_of_le XP.out.lt HA4.out.size) (fun e => by have e' : w.heap.size + 2 = w.heap.size + 1 := Option.some.inj e; omega)).trans ((HA4.out.block _ XP.out.lt).trans XP.out)); have e0 := XP6.out.cell 0; have e1 := XP6.out.cell 1; have f1 : w6.frozen? ⟨w.heap.size + 2, 1, none⟩ = false := Joins.unfrozen_of_block XP6.out 1; have HZ := Hid.mk (awk_end HB4.out HA4.out gr6 ow6 hg6 XX.out.lt XP.out.lt HT.out); have C2 := check2_any _ HZ.out.2.1 _ cap HZ.out.2.2; clear ow6 gr6 hg6 lt6))
  go_ret
  exact ⟨rfl, HZ.out.1.trans (Joins.below_le HE.out HZ.out.1.size)⟩
end Go.Proofs.YtcbdolflgpmaoaaDoor

/- A program that is not too great: its names are short, and few come into scope. -/
namespace Go.Proofs.YtcbdolflgpmaoaaDoor
open Go.RowKit
set_option linter.unusedVariables false
set_option linter.unusedSimpArgs false

theorem wf64 {a : Int} (h : In64 a) : (Lit.int .i64 a).wf = true := WalkArith.wf_i64 h
theorem wtN_mem : ∀ {l : List Nm} {s : Nm}, s ∈ l → s.length ≤ wtN l
  | [], s, h => by cases h
  | y :: r, s, h => by
    rw [wtN]
    rcases List.mem_cons.1 h with e | e
    · rw [e]; omega
    · have := wtN_mem e; omega
theorem wtT_mem : ∀ {l : List Atm} {s : Atm}, s ∈ l → s.name.length ≤ wtT l
  | [], s, h => by cases h
  | y :: r, s, h => by
    rw [wtT]
    rcases List.mem_cons.1 h with e | e
    · rw [e]; omega
    · have := wtT_mem e; omega
theorem wtN_len : ∀ l : List Nm, l.length ≤ wtN l
  | [] => Nat.le_refl _
  | s :: r => by have := wtN_len r; simp only [wtN, List.length_cons]; omega
mutual
theorem ok_E : ∀ x : E, finE x → wtE x ≤ 1048576 → okE x
  | .mk k a n m ts bs ks al, f, h => by
    simp only [finE] at f
    simp only [wtE] at h
    simp only [okE]
    have ml : (1048576 : Nat) ≤ maxLen := by unfold maxLen; omega
    exact ⟨by omega, fun t ht => by have := wtT_mem ht; omega, ok_Bs bs f.2.2.1 (by omega), ok_Es ks f.2.2.2.1 (by omega), ok_As al f.2.2.2.2 (by omega)⟩
theorem ok_B : ∀ x : B, finB x → wtB x ≤ 1048576 → okB x
  | .mk n a l x, f, h => by
    simp only [finB] at f
    simp only [wtB] at h
    simp only [okB]
    have ml : (1048576 : Nat) ≤ maxLen := by unfold maxLen; omega
    exact ⟨by omega, fun s hs => by have := wtN_mem hs; omega, ok_E x f (by omega)⟩
theorem ok_A : ∀ x : A, finA x → wtA x ≤ 1048576 → okA x
  | .mk k a n m vs x, f, h => by
    simp only [finA] at f
    simp only [wtA] at h
    simp only [okA]
    have ml : (1048576 : Nat) ≤ maxLen := by unfold maxLen; omega
    exact ⟨wf64 f.1, by omega, wf64 f.2.1, fun s hs => by have := wtN_mem hs; omega, ok_E x f.2.2 (by omega)⟩
theorem ok_Es : ∀ l : List E, finEs l → wtEs l ≤ 1048576 → okEs l
  | [], _, _ => by simp only [okEs]
  | x :: r, f, h => by
    simp only [finEs] at f
    simp only [wtEs] at h
    simp only [okEs]
    exact ⟨ok_E x f.1 (by omega), ok_Es r f.2 (by omega)⟩
theorem ok_Bs : ∀ l : List B, finBs l → wtBs l ≤ 1048576 → okBs l
  | [], _, _ => by simp only [okBs]
  | x :: r, f, h => by
    simp only [finBs] at f
    simp only [wtBs] at h
    simp only [okBs]
    exact ⟨ok_B x f.1 (by omega), ok_Bs r f.2 (by omega)⟩
theorem ok_As : ∀ l : List A, finAs l → wtAs l ≤ 1048576 → okAs l
  | [], _, _ => by simp only [okAs]
  | x :: r, f, h => by
    simp only [finAs] at f
    simp only [wtAs] at h
    simp only [okAs]
    exact ⟨ok_A x f.1 (by omega), ok_As r f.2 (by omega)⟩
end
mutual
theorem nm_wE : ∀ x : E, nmE x ≤ wtE x
  | .mk k a n m ts bs ks al => by
    have h1 := nm_wBs bs
    have h2 := nm_wEs ks
    have h3 := nm_wAs al
    simp only [nmE, wtE]
    omega
theorem nm_wB : ∀ x : B, nmB x + 5 ≤ wtB x
  | .mk n a l x => by
    have h1 := nm_wE x
    have h2 := wtN_len l
    simp only [nmB, wtB]
    omega
theorem nm_wA : ∀ x : A, nmA x ≤ wtA x
  | .mk k a n m vs x => by
    have h1 := nm_wE x
    have h2 := wtN_len vs
    simp only [nmA, wtA]
    omega
theorem nm_wEs : ∀ l : List E, nmEs l ≤ wtEs l
  | [] => by simp only [nmEs, wtEs]; omega
  | x :: r => by
    have h1 := nm_wE x
    have h2 := nm_wEs r
    simp only [nmEs, wtEs]
    omega
theorem nm_wBs : ∀ l : List B, l.length + nmBs l ≤ wtBs l
  | [] => by simp only [nmBs, wtBs, List.length_nil]; omega
  | x :: r => by
    have h1 := nm_wB x
    have h2 := nm_wBs r
    simp only [nmBs, wtBs, List.length_cons]
    omega
theorem nm_wAs : ∀ l : List A, nmAs l ≤ wtAs l
  | [] => by simp only [nmAs, wtAs]; omega
  | x :: r => by
    have h1 := nm_wA x
    have h2 := nm_wAs r
    simp only [nmAs, wtAs]
    omega
end
theorem wtD_mem : ∀ {l : List D} {d : D}, d ∈ l → d.name.length ≤ wtDs l
  | [], s, h => by cases h
  | y :: r, s, h => by
    rw [wtDs, wtD]
    rcases List.mem_cons.1 h with e | e
    · rw [e]; omega
    · have := wtD_mem e; omega
theorem ok_P {p : Pg} (f : finP p) (h : wtP p ≤ 1048576) : okPg p.datas p.binds ∧ p.binds.length + 2 * nmBs p.binds ≤ 1000000000 ∧ p.binds.length + nmBs p.binds ≤ 1000000000 := by
  unfold wtP at h
  have ml : (1048576 : Nat) ≤ maxLen := by unfold maxLen; omega
  have := nm_wBs p.binds
  exact ⟨⟨fun d hd => by have := wtD_mem hd; omega, ok_Bs _ f.2 (by omega)⟩, by omega, by omega⟩
/-- the program's Check, and the document's, of a program in memory -/
theorem pcheck_V {w : World} (T : Table w) {p : Pg} {vd vb : Value} (I : isPV w (fun g => g < w.heap.size) p (.agg #[vd, vb])) (ok : okPg p.datas p.binds) (h : p.binds.length + 2 * nmBs p.binds ≤ 1000000000) :
    Calls Tryd.prog 8 #[.agg #[vd, vb]] w fun e w' => e = .returned (.tuple #[.int .i64 (atF (checkP prN tA p)), .int .i64 (erF (checkP prN tA p))]) ∧ Below w.heap.size w w' := by
  obtain ⟨vd', vb', xb, e, ID, IB, IBS⟩ := I
  simp only [Value.agg.injEq, Array.mk.injEq, List.cons.injEq, and_true] at e
  obtain ⟨rfl, rfl⟩ := e
  have ID0 := ID
  have IB0 := IB
  obtain ⟨gd, cd, rfl, _, _⟩ := ID
  obtain ⟨gb, cb, rfl, _, _⟩ := IB
  exact pcheck_any p.datas p.binds gd gb _ _ cd cb xb w T ID0 IB0 IBS rfl rfl ok h
theorem check_V {w : World} {p : Pg} {vd vb : Value} (I : isPV w (fun g => g < w.heap.size) p (.agg #[vd, vb])) (h : p.binds.length + nmBs p.binds ≤ 1000000000) :
    Calls Tryd.prog 9 #[.agg #[vd, vb]] w fun e w' => e = .returned (.tuple #[.int .i64 (atF (checkP prN tA p)), .int .i64 (erF (checkP prN tA p))]) ∧ Below w.heap.size w w' := by
  obtain ⟨vd', vb', xb, e, ID, IB, IBS⟩ := I
  simp only [Value.agg.injEq, Array.mk.injEq, List.cons.injEq, and_true] at e
  obtain ⟨rfl, rfl⟩ := e
  have ID0 := ID
  have IB0 := IB
  obtain ⟨gd, cd, rfl, _, _⟩ := ID
  obtain ⟨gb, cb, rfl, _, _⟩ := IB
  exact check_any p.datas p.binds gd gb _ _ cd cb xb w ID0 IB0 IBS rfl rfl h
theorem pv_lift {w w' : World} {p : Pg} {v : Value} (h : isPV w (fun g => g < w.heap.size) p v) (k : Below w.heap.size w w') : isPV w' (fun g => g < w'.heap.size) p v := isPV_keeps (keeps_below k (fun g hg => Nat.lt_of_lt_of_le hg k.size)) h
set_option maxRecDepth 100000 in
set_option maxHeartbeats 4000000 in
/-- ScopeChecks, of a program in memory -/
theorem checks_any (v : Value) (p : Pg) (w : World) (T : Table w) (I : isPV w (fun g => g < w.heap.size) p v) (ok : okPg p.datas p.binds) (h2 : p.binds.length + 2 * nmBs p.binds ≤ 1000000000) :
    Calls Tryd.prog 3 #[v] w fun e w' => e = .returned (.bool true) ∧ Below w.heap.size w w' := by
  obtain ⟨vd, vb, xb, rfl, ID, IB, IBS⟩ := id I
  obtain ⟨gd, cd, rfl, _, _⟩ := ID
  obtain ⟨gb, cb, rfl, _, _⟩ := IB
  have K1 := Joins.below_alloc1 w (.cells #[.slice gd p.datas.length cd, .slice gb p.binds.length cb] 25)
  have X1 : Bx (w.alloc (.cells #[.slice gd p.datas.length cd, .slice gb p.binds.length cb] 25)) w.heap.size #[.slice gd p.datas.length cd, .slice gb p.binds.length cb] 25 := heap_alloc_new w _
  have C1 := pcheck_V (T.later K1) (pv_lift I K1) ok h2
  have HALL := Hid.mk (And.intro I (And.intro T (And.intro K1 X1)))
  have H2 := Hid.mk (show p.binds.length + nmBs p.binds ≤ 1000000000 by omega)
  have y0 := X1.cell 0
  have y1 := X1.cell 1
  have HC2 := Hid.mk (fun (W : World) (k : Below w.heap.size w W) => check_V (w := W) (pv_lift I k) H2.out)
  have HAW := Hid.mk (fun (W : World) (k : Below w.heap.size w W) => awake_any W (T.later k))
  generalize checkP prN tA p = F at C1 HC2
  generalize p.datas.length = ld at *
  generalize p.binds.length = lb at *
  clear I ok h2 T K1 X1 IBS
  go_enter Tryd.func3, Tryd.ntmps3
  go_wp2_with (first
    | (go_at_call 10; refine (HAW.out _ HB3.out).mono ?_; rintro e w4 ⟨rfl, B4⟩; have HB4 := Hid.mk (HB3.out.trans (Joins.below_le B4 HB3.out.size)); clear B4)
    | (go_at_call 9; refine (HC2.out _ HB2.out).mono ?_; rintro e w3 ⟨rfl, B3⟩; have HB3 := Hid.mk (HB2.out.trans (Joins.below_le B3 HB2.out.size)); clear B3)
    | (go_at_call 8; refine C1.mono ?_; rintro e w2 ⟨rfl, B2⟩; have HB2 := Hid.mk (HALL.out.2.2.1.trans (Joins.below_le B2 HALL.out.2.2.1.size)); have XW : Bx w2 w.heap.size #[.slice gd ld cd, .slice gb lb cb] 25 := (B2.block _ HALL.out.2.2.2.lt).trans HALL.out.2.2.2; have z0 := XW.cell 0; have z1 := XW.cell 1; clear B2 C1 XW))
  go_ret
  exact ⟨rfl, HB4.out⟩
end Go.Proofs.YtcbdolflgpmaoaaDoor
