/- Package lazy: a primitive's arguments. -/
import Derived.Test.YtbajpejnnfacbaaGreatDoorLyf
namespace Go.Proofs.YtbajpejnnfacbaaGreatDoor.Lz
open Go.RowKit
set_option linter.unusedVariables false
set_option linter.unusedSimpArgs false


section
variable {s : St}
theorem args_step {k j m : Nat} {l : List Nat} (hr : s.rows[j]? = some l) (hm : m < l.length) : argsS s k j m = if needI k m = 0 then argsS s k j (m + 1) else { s with ws := .prim k j m :: s.ws, md := .kn (l.getD m 0) } := by
  have e : s.rows.getD j [] = l := by rw [List.getD_eq_getElem?_getD, hr]; rfl
  unfold argsS
  rw [e, List.drop_eq_getElem_cons hm, argsF]
  have : l.getD m 0 = l[m] := by rw [List.getD_eq_getElem?_getD, List.getElem?_eq_getElem hm]; rfl
  rw [this]
theorem args_end {k j m : Nat} {l : List Nat} (hr : s.rows[j]? = some l) (hm : l.length ≤ m) : argsS s k j m = primS s k l := by
  have e : s.rows.getD j [] = l := by rw [List.getD_eq_getElem?_getD, hr]; rfl
  unfold argsS
  rw [e, List.drop_eq_nil_of_le hm, argsF, e]
end
section
variable {w w' : World} {G G' : Gm} {rb mb : Nat} {mv : Mv} {s : St} {sh : Int}
theorem Below.fx {w w' : World} (G : Gm) (h : Below w.heap.size w w') : Fx G G w w' := Fx.of_below h
set_option maxRecDepth 100000 in
set_option maxHeartbeats 4000000 in
/-- all arguments are as they must be -/
theorem telling {ar : List Nat} (h : Run w G rb mb mv s sh) {j n k : Nat} {v : Value} (hv : pPrw G j n v) {l : List Nat} (hr : s.rows[j]? = some l) (hn : n = l.length) (h1 : 1 ≤ k) (h16 : k ≤ 16) (ha : Args s.th k l) (ok : okAll ar s.th) (hw : s.ws.length ≤ 1000000000) (ho : s.out.length + 1 ≤ 1000000000) {tv : Value} (ht : pTell G k tv)
    {P : Ending → World → Prop} (hP : ∀ e w', Out w G rb mb mv (primS s k l) sh e w' → P e w') :
    (∃ nb, tv = .func (.func 113) #[] #[ptr nb] ∧ Calls Tryz.prog 113 #[ptr rb, v, ptr nb] w P) ∨ (tv = .func (.func 84) #[] #[] ∧ Calls Tryz.prog 84 #[ptr rb, v] w P) ∨ (tv = .func (.func 85) #[] #[] ∧ Calls Tryz.prog 85 #[ptr rb, v] w P) ∨ (tv = .func (.func 86) #[] #[] ∧ Calls Tryz.prog 86 #[ptr rb, v] w P) ∨ (tv = .func (.func 87) #[] #[] ∧ Calls Tryz.prog 87 #[ptr rb, v] w P) ∨
    (tv = .func (.func 88) #[] #[] ∧ Calls Tryz.prog 88 #[ptr rb, v] w P) ∨ (tv = .func (.func 89) #[] #[] ∧ Calls Tryz.prog 89 #[ptr rb, v] w P) ∨ (∃ nb, tv = .func (.func 111) #[] #[ptr nb] ∧ Calls Tryz.prog 111 #[ptr rb, v, ptr nb] w P) ∨ (tv = .func (.func 94) #[] #[] ∧ Calls Tryz.prog 94 #[ptr rb, v] w P) := by
  rcases ht with ⟨a, b, g, e, hg⟩ | ⟨rfl, e⟩ | ⟨rfl, e⟩ | ⟨rfl, e⟩ | ⟨rfl, e⟩ | ⟨rfl, e⟩ | ⟨rfl, e⟩ | ⟨rfl, g, e, hg⟩ | ⟨rfl, g, e, hg⟩ | ⟨rfl, e⟩
  · exact .inl ⟨g, e, (num_any h hv hr hn a b ha hw hg).mono hP⟩
  · exact .inr (.inl ⟨e, (emit_any h hv hr hn ha ho).mono hP⟩)
  · exact .inr (.inr (.inl ⟨e, (seq_any h hv hr hn ha).mono hP⟩))
  · exact .inr (.inr (.inr (.inl ⟨e, (ref_any h hv hr hn ha).mono hP⟩)))
  · exact .inr (.inr (.inr (.inr (.inl ⟨e, (get_any h hv hr hn ha).mono hP⟩))))
  · exact .inr (.inr (.inr (.inr (.inr (.inl ⟨e, (set_any h hv hr hn ha).mono hP⟩)))))
  · exact .inr (.inr (.inr (.inr (.inr (.inr (.inl ⟨e, (arr_any h hv hr hn ha hw).mono hP⟩))))))
  · exact .inr (.inr (.inr (.inr (.inr (.inr (.inr (.inl ⟨g, e, (itm_any h hv hr hn (.inl rfl) ha ok hw hg).mono hP⟩)))))))
  · exact .inr (.inr (.inr (.inr (.inr (.inr (.inr (.inl ⟨g, e, (itm_any h hv hr hn (.inr rfl) ha ok hw hg).mono hP⟩)))))))
  · exact .inr (.inr (.inr (.inr (.inr (.inr (.inr (.inr ⟨e, (len_any h hv hr hn ha).mono hP⟩)))))))
set_option maxRecDepth 100000 in
set_option maxHeartbeats 4000000 in
theorem args_any {ar : List Nat} (h : Run w G rb mb mv s sh) {j n k xb i : Nat} {v : Value} {la : List Am} (hv : pPrw G j n v) {l : List Nat} (hr : s.rows[j]? = some l) (hn : n = l.length) (hx : G xb = some (.exp (.prim k la))) (h1 : 1 ≤ k) (h16 : k ≤ 16) (al : (l.length : Int) = tA k) (ao : okL s.th.length l) (hk : ∀ m : Nat, m < i → Known s.th (l.getD m 0) (needI k m)) (ok : okAll ar s.th)
    (hw : s.ws.length + 1 ≤ 1000000000) (ho : s.out.length + 1 ≤ 1000000000) (hi : i ≤ l.length) :
    Calls Tryz.prog 74 #[ptr rb, ptr xb, v, .int .i64 i] w (Out w G rb mb mv (argsS s k j i) sh) := by
  have hv0 := hv
  obtain ⟨g, cap, rfl, hcap, gt⟩ := hv
  have l8 : n ≤ 8 := by
    have c : k = 1 ∨ k = 2 ∨ k = 3 ∨ k = 4 ∨ k = 5 ∨ k = 6 ∨ k = 7 ∨ k = 8 ∨ k = 9 ∨ k = 10 ∨ k = 11 ∨ k = 12 ∨ k = 13 ∨ k = 14 ∨ k = 15 ∨ k = 16 := by omega
    rcases c with rfl | rfl | rfl | rfl | rfl | rfl | rfl | rfl | rfl | rfl | rfl | rfl | rfl | rfl | rfl | rfl <;> simp only [tA] at al <;> omega
  have HH := Hid.mk (And.intro h (And.intro hv0 (And.intro hr (And.intro hx (And.intro al (And.intro ao (And.intro hk ok)))))))
  have HN := Hid.mk hn
  have inn : i ≤ n := by omega
  clear h hv0 hr hx al ao hk ok gt hn hi
  go_enter Tryz.func74, Tryz.ntmps74
  go_wp2
  go_loopw [8] (fun c wr => ∃ m : Nat, c = .int .i64 m ∧ i ≤ m ∧ m ≤ n ∧ Hid (argsS s k j i = argsS s k j m ∧ Below w.heap.size w wr ∧ ∀ q : Nat, q < m → Known s.th (l.getD q 0) (needI k q))) (fun c _ => n - (intOf c).toNat)
  case atStart => exact ⟨i, rfl, Nat.le_refl _, inn, ⟨rfl, Below.refl _ _, HH.out.2.2.2.2.2.2.1⟩⟩
  case round =>
    obtain ⟨m, rfl, hm0, hm, HM⟩ := hrel
    obtain ⟨h, hv, hr, hx, al, ao, hk, ok⟩ := HH.out
    have hn := HN.out
    have R := h.below HM.out.2.1
    obtain ⟨cx, hcx, av, tvv, pa, pt, ecx⟩ := R.rep.expB hx
    have XX : Bx wr xb (xC 3 0 k tvv 0 0 av nils nilp nilm nilp) 147 := by rw [← ecx]; exact hcx
    by_cases lt : m < n
    · have ltI : (m : Int) < n := by omega
      have ml : m < l.length := by omega
      have x2 := XX.cell 2
      have ND := need_any k m wr R.tab
      rw [rowN_in (by omega)] at ND
      obtain ⟨b, cb, hb⟩ := (prw_get R.rep hv hr hn).choose_spec.choose_spec.2 m ml
      have es := args_step (s := s) (k := k) (j := j) hr ml
      have tlt : l.getD m 0 < s.th.length := getD_lt ao ml 0
      have HR := Hid.mk R
      have HS := Hid.mk es
      have HB := Hid.mk hb
      have HXX := Hid.mk XX
      have FIN : Hid (∀ w8, Below wr.heap.size wr w8 → Run w8 G rb mb mv s sh ∧ Below w.heap.size w w8) := ⟨fun w8 B8 => ⟨R.below B8, HM.out.2.1.trans (Joins.below_le B8 HM.out.2.1.size)⟩⟩
      by_cases z : needI k m = 0
      · rw [z] at ND
        rw [if_pos z] at es
        have HS2 : Hid (argsS s k j i = argsS s k j (m + 1) ∧ ∀ q : Nat, q < m + 1 → Known s.th (l.getD q 0) (needI k q)) := ⟨HM.out.1.trans es, fun q hq => by
          by_cases e : q = m
          · subst e; rw [z]; exact ⟨_, th_lt tlt, fun e => absurd rfl e, by simp [unlikeT]⟩
          · exact HM.out.2.2 q (by omega)⟩
        clear R h hv hr hx al ao hk ok hn hcx pa pt ecx XX es HS hb cb
        go_wp2_with (go_at_call 102; refine ND.mono ?_; rintro e w8 ⟨rfl, B8⟩; have HB8 := Hid.mk (FIN.out _ B8).2; clear B8)
        exact ⟨⟨m + 1, by go_num, by omega, by omega, ⟨HS2.out.1, HB8.out, HS2.out.2⟩⟩, by simp [intOf]; omega⟩
      · rw [if_neg z] at es
        have HS2 : Hid (argsS s k j i = { s with ws := .prim k j m :: s.ws, md := .kn (l.getD m 0) }) := ⟨HM.out.1.trans es⟩
        have fm : Hid (fmC G (.prim k j m) [.int .i64 3, .pointer none, .slice (some ⟨g, 0, none⟩) n cap, .pointer (some ⟨xb, 0, none⟩), .pointer none, .int .i64 m]) := ⟨⟨_, _, la, n, ⟨xb, rfl, hx⟩, hv, by rw [hn]; exact al, rfl⟩⟩
        have CB : Hid (∀ w8 G8, Fx G G8 w w8 → Run w8 G8 rb mb mv { s with ws := .prim k j m :: s.ws } sh → w8.cell? ⟨g, m, none⟩ = some (ptr b)) := ⟨fun w8 G8 F8 R8 => prw_cell (n := 0) (cap := 0) R8.rep (F8.le _ _ (by obtain ⟨g', c', e, _, q⟩ := hv; cases e; exact q)) hr ml (F8.le _ _ hb)⟩
        generalize needI k m = nd at *
        have nz : (nd == 0) = false := beq_eq_false_iff_ne.2 z
        have nz' : (nd != 0) = true := by simp [z]
        clear R h hv hr hx al ao hk ok hn hcx pa pt ecx XX es HS hb cb
        go_wp2_with (first
          | (go_at_call 102; refine ND.mono ?_; rintro e w8 ⟨rfl, B8⟩; have HB8 := Hid.mk (FIN.out _ B8).2; have WA := wait_any (FIN.out _ B8).1 (.prim k j m) 3 m none (some ⟨xb, 0, none⟩) none (some ⟨g, 0, none⟩) n cap fm.out hw; clear B8)
          | (go_at_call 73; refine WA.mono ?_; rintro e w9 ⟨rfl, G9, F9, R9⟩; have c9 := CB.out w9 G9 ((Fx.of_below HB8.out).trans F9) R9; have K := knows_any R9 ⟨b, rfl, F9.le _ _ HB.out⟩; have HF := Hid.mk ((Fx.of_below (G := G) HB8.out).trans F9); clear F9 R9)
          | (go_at_call 49; refine K.mono ?_; intro e w10 H9; have HE := Hid.mk (Out.from HF.out H9); obtain ⟨rfl, _⟩ := H9))
        go_end0
        rw [HS2.out]
        exact HE.out
    · obtain rfl : m = n := by omega
      have es := args_end (s := s) (k := k) (j := j) (m := m) hr (by omega)
      have HS := Hid.mk (HM.out.1.trans es)
      have x3 := XX.cell 3
      have T := telling (ar := ar) R hv hr hn h1 h16 ⟨al, ao, fun q hq => HM.out.2.2 q (by omega)⟩ ok (by omega) ho pt (P := Out w G rb mb mv (argsS s k j i) sh) (fun e w9 H9 => by rw [HS.out]; exact Out.from (Fx.of_below HM.out.2.1) H9)
      clear R h hv hr hx al ao hk ok hn hcx pa pt ecx XX es HS HM
      rcases T with ⟨nb, rfl, K⟩ | ⟨rfl, K⟩ | ⟨rfl, K⟩ | ⟨rfl, K⟩ | ⟨rfl, K⟩ | ⟨rfl, K⟩ | ⟨rfl, K⟩ | ⟨nb, rfl, K⟩ | ⟨rfl, K⟩
      · go_wp2_with (go_at_call 113; refine K.mono ?_; intro e w10 H9; have HE := Hid.mk H9; obtain ⟨rfl, _⟩ := H9)
        go_end0
        exact HE.out
      · go_wp2_with (go_at_call 84; refine K.mono ?_; intro e w10 H9; have HE := Hid.mk H9; obtain ⟨rfl, _⟩ := H9)
        go_end0
        exact HE.out
      · go_wp2_with (go_at_call 85; refine K.mono ?_; intro e w10 H9; have HE := Hid.mk H9; obtain ⟨rfl, _⟩ := H9)
        go_end0
        exact HE.out
      · go_wp2_with (go_at_call 86; refine K.mono ?_; intro e w10 H9; have HE := Hid.mk H9; obtain ⟨rfl, _⟩ := H9)
        go_end0
        exact HE.out
      · go_wp2_with (go_at_call 87; refine K.mono ?_; intro e w10 H9; have HE := Hid.mk H9; obtain ⟨rfl, _⟩ := H9)
        go_end0
        exact HE.out
      · go_wp2_with (go_at_call 88; refine K.mono ?_; intro e w10 H9; have HE := Hid.mk H9; obtain ⟨rfl, _⟩ := H9)
        go_end0
        exact HE.out
      · go_wp2_with (go_at_call 89; refine K.mono ?_; intro e w10 H9; have HE := Hid.mk H9; obtain ⟨rfl, _⟩ := H9)
        go_end0
        exact HE.out
      · go_wp2_with (go_at_call 111; refine K.mono ?_; intro e w10 H9; have HE := Hid.mk H9; obtain ⟨rfl, _⟩ := H9)
        go_end0
        exact HE.out
      · go_wp2_with (go_at_call 94; refine K.mono ?_; intro e w10 H9; have HE := Hid.mk H9; obtain ⟨rfl, _⟩ := H9)
        go_end0
        exact HE.out
end
end Go.Proofs.YtbajpejnnfacbaaGreatDoor.Lz
