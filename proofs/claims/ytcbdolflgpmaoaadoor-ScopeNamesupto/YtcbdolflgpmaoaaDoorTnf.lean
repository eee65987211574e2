/- ScopeNames: a program with other names is no greater than it may be. -/
import Derived.Test.YtcbdolflgpmaoaaDoorTnd
import Derived.Test.YtcbdolflgpmaoaaDoorTne
namespace Go.Proofs.YtcbdolflgpmaoaaDoor
open Go.RowKit
set_option linter.unusedVariables false
set_option linter.unusedSimpArgs false

theorem turn_len (s : Nm) : (turn s).length ≤ s.length + 1 := by
  unfold turn
  split
  · omega
  · simp
theorem ite_len (c : Prop) [Decidable c] (s : Nm) : (if c then turn s else s).length ≤ s.length + 1 := by
  split
  · exact turn_len s
  · omega
mutual
theorem okt_E : ∀ x : E, finE x → wtE x ≤ 1048576 → okE (turnE x)
  | .mk k a n m ts bs ks al, f, h => by
    simp only [finE] at f
    simp only [wtE] at h
    simp only [turnE, okE]
    have ml : (1048577 : Nat) ≤ maxLen := by unfold maxLen; omega
    refine ⟨Nat.le_trans (ite_len _ n) (by omega), fun t ht => ?_, okt_Bs bs f.2.2.1 (by omega), okt_Es ks f.2.2.2.1 (by omega), okt_As al f.2.2.2.2 (by omega)⟩
    obtain ⟨t', ht', rfl⟩ := List.mem_map.1 ht
    have h1 := wtT_mem ht'
    have h2 := turn_len t'.name
    simp only [turnT]
    omega
theorem okt_B : ∀ x : B, finB x → wtB x ≤ 1048576 → okB (turnB x)
  | .mk n a l x, f, h => by
    simp only [finB] at f
    simp only [wtB] at h
    simp only [turnB, okB]
    have ml : (1048577 : Nat) ≤ maxLen := by unfold maxLen; omega
    refine ⟨Nat.le_trans (turn_len n) (by omega), fun s hs => ?_, okt_E x f (by omega)⟩
    obtain ⟨t', ht', rfl⟩ := List.mem_map.1 hs
    have h1 := wtN_mem ht'
    have h2 := turn_len t'
    omega
theorem okt_A : ∀ x : A, finA x → wtA x ≤ 1048576 → okA (turnA x)
  | .mk k a n m vs x, f, h => by
    simp only [finA] at f
    simp only [wtA] at h
    simp only [turnA, okA]
    have ml : (1048577 : Nat) ≤ maxLen := by unfold maxLen; omega
    refine ⟨wf64 f.1, Nat.le_trans (ite_len _ n) (by omega), wf64 f.2.1, fun s hs => ?_, okt_E x f.2.2 (by omega)⟩
    obtain ⟨t', ht', rfl⟩ := List.mem_map.1 hs
    have h1 := wtN_mem ht'
    have h2 := turn_len t'
    omega
theorem okt_Es : ∀ l : List E, finEs l → wtEs l ≤ 1048576 → okEs (turnEs l)
  | [], _, _ => by simp only [turnEs, okEs]
  | x :: r, f, h => by
    simp only [finEs] at f
    simp only [wtEs] at h
    simp only [turnEs, okEs]
    exact ⟨okt_E x f.1 (by omega), okt_Es r f.2 (by omega)⟩
theorem okt_Bs : ∀ l : List B, finBs l → wtBs l ≤ 1048576 → okBs (turnBs l)
  | [], _, _ => by simp only [turnBs, okBs]
  | x :: r, f, h => by
    simp only [finBs] at f
    simp only [wtBs] at h
    simp only [turnBs, okBs]
    exact ⟨okt_B x f.1 (by omega), okt_Bs r f.2 (by omega)⟩
theorem okt_As : ∀ l : List A, finAs l → wtAs l ≤ 1048576 → okAs (turnAs l)
  | [], _, _ => by simp only [turnAs, okAs]
  | x :: r, f, h => by
    simp only [finAs] at f
    simp only [wtAs] at h
    simp only [turnAs, okAs]
    exact ⟨okt_A x f.1 (by omega), okt_As r f.2 (by omega)⟩
end
mutual
theorem nmt_E : ∀ x : E, nmE (turnE x) = nmE x
  | .mk k a n m ts bs ks al => by simp only [turnE, nmE, turnBs_len, nmt_Bs bs, nmt_Es ks, nmt_As al]
theorem nmt_B : ∀ x : B, nmB (turnB x) = nmB x
  | .mk n a l x => by simp only [turnB, nmB, List.length_map, nmt_E x]
theorem nmt_A : ∀ x : A, nmA (turnA x) = nmA x
  | .mk k a n m vs x => by simp only [turnA, nmA, List.length_map, nmt_E x]
theorem nmt_Es : ∀ l : List E, nmEs (turnEs l) = nmEs l
  | [] => by simp only [turnEs]
  | x :: r => by simp only [turnEs, nmEs, nmt_E x, nmt_Es r]
theorem nmt_Bs : ∀ l : List B, nmBs (turnBs l) = nmBs l
  | [] => by simp only [turnBs]
  | x :: r => by simp only [turnBs, nmBs, nmt_B x, nmt_Bs r]
theorem nmt_As : ∀ l : List A, nmAs (turnAs l) = nmAs l
  | [] => by simp only [turnAs]
  | x :: r => by simp only [turnAs, nmAs, nmt_A x, nmt_As r]
end
end Go.Proofs.YtcbdolflgpmaoaaDoor

/- ScopeNames, of a program in memory. -/
namespace Go.Proofs.YtcbdolflgpmaoaaDoor
open Go.RowKit
set_option linter.unusedVariables false
set_option linter.unusedSimpArgs false

mutual
theorem TE_all : ∀ x : E, wtE x ≤ 1048576 → TE x
  | .mk k a n m ts bs ks al, h => by
    have h0 := h
    simp only [wtE] at h0
    exact texp_any k a n m ts bs ks al h (tbinds_any bs (by omega) (TBm_all bs (by omega))) (TEm_all ks (by omega)) (TAm_all al (by omega))
theorem TBm_all : ∀ l : List B, wtBs l ≤ 1048576 → ∀ x ∈ l, TE (bodB x)
  | [], _, x, h => by cases h
  | .mk n a l y :: r, hw, x, h => by
    simp only [wtBs, wtB] at hw
    rcases List.mem_cons.1 h with e | e
    · rw [e]; exact TE_all y (by omega)
    · exact TBm_all r (by omega) x e
theorem TEm_all : ∀ l : List E, wtEs l ≤ 1048576 → ∀ x ∈ l, TE x
  | [], _, x, h => by cases h
  | y :: r, hw, x, h => by
    simp only [wtEs] at hw
    rcases List.mem_cons.1 h with e | e
    · rw [e]; exact TE_all y (by omega)
    · exact TEm_all r (by omega) x e
theorem TAm_all : ∀ l : List A, wtAs l ≤ 1048576 → ∀ x ∈ l, TE (bodA x)
  | [], _, x, h => by cases h
  | .mk k a n m vs y :: r, hw, x, h => by
    simp only [wtAs, wtA] at hw
    rcases List.mem_cons.1 h with e | e
    · rw [e]; exact TE_all y (by omega)
    · exact TAm_all r (by omega) x e
end
set_option maxRecDepth 100000 in
set_option maxHeartbeats 8000000 in
theorem names_any (v : Value) (p : Pg) (w : World) (T : Table w) (I : isPV w (fun g => g < w.heap.size) p v) (hf : finP p) (hw : wtP p ≤ 1048576) :
    Calls Tryd.prog 6 #[v] w fun e w' => e = .returned (.bool true) ∧ Below w.heap.size w w' := by
  have ok := ok_P hf hw
  have hwb : wtBs p.binds ≤ 1048576 := by unfold wtP at hw; omega
  obtain ⟨vd, vb, xb, rfl, ID, IB, IBS⟩ := id I
  have HI := Hid.mk (And.intro ID (And.intro IB IBS))
  obtain ⟨gd, cd, rfl, -, -⟩ := ID
  obtain ⟨gb, cb, rfl, -, -⟩ := IB
  have K1 := Joins.below_alloc1 w (.cells #[.slice gd p.datas.length cd, .slice gb p.binds.length cb] 25)
  have X1 : Bx (w.alloc (.cells #[.slice gd p.datas.length cd, .slice gb p.binds.length cb] 25)) w.heap.size #[.slice gd p.datas.length cd, .slice gb p.binds.length cb] 25 := heap_alloc_new w _
  have C1 := pcheck_V (T.later K1) (pv_lift I K1) ok.1 ok.2.1
  have HBX := Hid.mk (fun (W : World) (b : Below (w.alloc (.cells #[.slice gd p.datas.length cd, .slice gb p.binds.length cb] 25)).heap.size (w.alloc (.cells #[.slice gd p.datas.length cd, .slice gb p.binds.length cb] 25)) W) => X1.later b)
  have HLI := Hid.mk (fun (W : World) (b : Below (w.alloc (.cells #[.slice gd p.datas.length cd, .slice gb p.binds.length cb] 25)).heap.size (w.alloc (.cells #[.slice gd p.datas.length cd, .slice gb p.binds.length cb] 25)) W) => show Below w.heap.size w W from K1.trans (Joins.below_le b K1.size))
  have TB := tbinds_any p.binds hwb (TBm_all p.binds hwb)
  have HT := Hid.mk (fun (W : World) (b : Below w.heap.size w W) => TB W (.slice gb p.binds.length cb) xb (HI.out.2.1.keeps (keeps_below b (fun g hg => Nat.lt_of_lt_of_le hg b.size))) (isBs_keeps (keeps_below b (fun g hg => Nat.lt_of_lt_of_le hg b.size)) _ _ HI.out.2.2))
  have HC2 := Hid.mk (fun (W W1 : World) (b : Below w.heap.size w W) (b1 : Below W.heap.size W W1) (v' : Value) (xb' : List Value) (R : IsRow W1 (new W W1) xb' p.binds.length v') (J : isBs W1 (new W W1) (turnBs p.binds) xb') => show Calls Tryd.prog 8 #[.agg #[.slice gd p.datas.length cd, v']] W1 (fun e w' => e = .returned (.tuple #[.int .i64 (atF (checkP prN tA p)), .int .i64 (erF (checkP prN tA p))]) ∧ Below W1.heap.size W1 w') from by
    have bb : Below w.heap.size w W1 := b.trans (Joins.below_le b1 b.size)
    have kn : Keeps (new W W1) (fun g => g < W1.heap.size) W1 W1 := ⟨fun _ _ _ _ h => h, fun g hg => hg.2⟩
    have P2 : isPV W1 (fun g => g < W1.heap.size) ⟨p.datas, turnBs p.binds⟩ (.agg #[.slice gd p.datas.length cd, v']) := ⟨_, _, xb', rfl, HI.out.1.keeps (keeps_below bb (fun g hg => Nat.lt_of_lt_of_le hg bb.size)), by simp only [turnBs_len]; exact R.keeps kn, isBs_keeps kn _ _ J⟩
    have C := pcheck_V (T.later bb) P2 ⟨ok.1.1, okt_Bs _ hf.2 hwb⟩ (by simp only [turnBs_len, nmt_Bs]; exact ok.2.1)
    rw [turn_check] at C
    exact C)
  have HAW := Hid.mk (fun (W : World) (k : Below w.heap.size w W) => awake_any W (T.later k))
  have y0 := X1.cell 0
  have y1 := X1.cell 1
  have HX := Hid.mk X1
  generalize checkP prN tA p = F at C1 HC2
  generalize atF F = fa at C1 HC2
  generalize erF F = fe at C1 HC2
  generalize p.datas.length = ld at *
  generalize p.binds.length = lb at *
  clear I ok hf hw hwb IBS K1 X1 TB HI T
  go_enter Tryd.func6, Tryd.ntmps6
  go_wp2_with (go_at_call 8; refine C1.mono ?_; rintro e w2 ⟨rfl, b2⟩; have B2 := Hid.mk b2; have z0 := (HBX.out _ b2).cell 0; have z1 := (HBX.out _ b2).cell 1; clear b2 C1)
  go_region_held3 (fun w' => w'.cell? ⟨w.heap.size, 0, none⟩ = some (.slice gd ld cd) ∧ w'.cell? ⟨w.heap.size, 1, none⟩ = some (.slice gb lb cb)) (go_keep) (first
    | (go_at_call 8; have zz := B3; refine (HC2.out _ _ (HLI.out _ B2.out.drew) B3.out _ _ N3.out.1 N3.out.2).mono ?_; rintro e w4 ⟨rfl, b4⟩; have B4 := Hid.mk (blw_below (blw_below B2.out.drew B3.out) b4); have q0 := (HBX.out _ B4.out).cell 0; have q1 := (HBX.out _ B4.out).cell 1; clear b4)
    | (go_at_call 14; refine (HT.out _ (HLI.out _ B2.out.drew)).mono ?_; rintro e w3 ⟨b3, v', xb', rfl, R3, J3⟩; obtain ⟨gv, cv, rfl, -, -⟩ := id R3; have B3 := Hid.mk b3; have N3 := Hid.mk (And.intro R3 J3); have r0 := (HBX.out _ (blw_below B2.out.drew b3)).cell 0; have r1 := (HBX.out _ (blw_below B2.out.drew b3)).cell 1; clear b3 R3 J3))
  all_goals go_wp2_with (go_at_call 10; refine (HAW.out _ (HLI.out _ B4.out)).mono ?_; rintro e w5 ⟨rfl, b5⟩; have B5 := Hid.mk (HLI.out _ (blw_below B4.out b5)); clear b5)
  all_goals go_ret
  all_goals exact ⟨rfl, B5.out⟩
end Go.Proofs.YtcbdolflgpmaoaaDoor
