/- Package scope's checker: names come into scope, and leave it. -/
import Derived.Test.YtcbdolflgpmaoaaDoorPca
namespace Go.Proofs.YtcbdolflgpmaoaaDoor
open Go.RowKit
open Go.Maps (Keyed string_keyed)
set_option linter.unusedVariables false
set_option linter.unusedSimpArgs false

/-- some names more -/
def plus (bd : Nm → Nat) (l : List Nm) : Nm → Nat := fun s => bd s + l.count s
theorem plus_nil (bd : Nm → Nat) : plus bd [] = bd := by funext s; simp [plus]
theorem plus_take (bd : Nm → Nat) (l : List Nm) (k : Nat) (h : k < l.length) (s : Nm) : plus bd (l.take (k + 1)) s = if s = l[k]'h then plus bd (l.take k) s + 1 else plus bd (l.take k) s := by
  unfold plus
  rw [List.take_succ_eq_append_getElem h, List.count_append, List.count_singleton]
  by_cases e : s = l[k]'h
  · rw [if_pos e, if_pos (by simp [e])]; omega
  · rw [if_neg e, if_neg (by simp; exact fun z => e z.symm)]; omega
theorem plus_drop (bd : Nm → Nat) (l : List Nm) (k : Nat) (h : k < l.length) (s : Nm) : plus bd (l.drop k) s = if s = l[k]'h then plus bd (l.drop (k + 1)) s + 1 else plus bd (l.drop (k + 1)) s := by
  unfold plus
  rw [List.drop_eq_getElem_cons h, List.count_cons]
  by_cases e : s = l[k]'h
  · rw [if_pos e, if_pos (by simp [e])]; omega
  · rw [if_neg e, if_neg (by simp; exact fun z => e z.symm)]; omega
section
variable {w w' : World} {b f m nf n : Nat} {fl : Nm → Option Int} {bd : Nm → Nat}
/-- what a name's number is turned into -/
theorem Cs.put {w1 : World} {g : Nm → Option Int} {D : DataW Unit} {s : Nm} {v : Int} {bd' : Nm → Nat} (h : Cs w b f m nf n fl bd) (q : ∀ s : Nm, Maps.has D (.string s) = (g s).isSome ∧ D.atKey (.string s) (.lit (.int .i64 0)) = .lit (.int .i64 ((g s).getD 0))) (q2 : ∀ s, (g s).getD 0 = (bd s : Int) ∧ bd s ≤ n) (hm : Maps.IsMap D)
    (hw : w1.ownsMap Tryd.prog 9 (plainElem Tryd.prog 3) m (n + 1) (D.put (.string s) (.lit (.int .i64 v)))) (hg : w.grownBy w1 (some m)) (hb : ∀ x, x ≠ s → bd' x = bd x) (hs : v = (bd' s : Int)) (hn : bd' s ≤ n + 1) : Cs w1 b f m nf (n + 1) fl bd' := by
  refine ⟨(hg.block b h.lt (fun e => h.ne.2.1 (Option.some.inj e))).trans h.blk, h.fs.grown hg (fun e => h.ne.2.2 (Option.some.inj e).symm), ⟨updG g s v, Mp.put q hm s v hw, fun x => ?_⟩, h.ne, h.tb.of_block (hg.block 0 h.tb.pos (fun e => h.pos.2.2 (Option.some.inj e))), h.pos⟩
  unfold updG
  by_cases e : x = s
  · subst e
    rw [if_pos rfl]
    exact ⟨hs, hn⟩
  · rw [if_neg e, hb x e]
    exact ⟨(q2 x).1, Nat.le_succ_of_le (q2 x).2⟩
theorem Ge.map {w1 : World} (hg : w.grownBy w1 (some m)) : Ge b f m w w1 := Ge.of_grown hg (fun i e => .inr (.inr (Option.some.inj e).symm))
set_option maxHeartbeats 1000000 in
theorem penter_any (h : Cs w b f m nf n fl bd) (l : List Nm) (v : Value) (I : IsRow w (but3 b f m) (strC l) l.length v) (hl : ∀ s ∈ l, s.length ≤ maxLen) (hn : n + l.length ≤ 1000000000) :
    Calls Tryd.prog 47 #[ptr b, v] w fun e w' => e = done ∧ Ge b f m w w' ∧ Cs w' b f m nf (n + l.length) fl (plus bd l) := by
  obtain ⟨ga, cap, rfl, hc, hx⟩ := I
  have HX := Hid.mk hx
  have HL := Hid.mk hl
  obtain ⟨k, hk⟩ : ∃ k, l.length = k := ⟨_, rfl⟩
  have HN := Hid.mk hk
  rw [hk] at hc hn ⊢
  clear hx hl hk
  go_enter Tryd.func47, Tryd.ntmps47
  go_wp2
  go_loopw [8] (fun c wr => ∃ i : Nat, c = .int .i64 i ∧ i ≤ k ∧ Ge b f m w wr ∧ Hid (Cs wr b f m nf (n + i) fl (plus bd (l.take i)))) (fun c _ => k - (intOf c).toNat)
  case atStart => exact ⟨0, rfl, Nat.zero_le _, Ge.refl _ _ _ _, ⟨by rw [List.take_zero, plus_nil]; exact h⟩⟩
  case round =>
    obtain ⟨i, rfl, hi, G, HC⟩ := hrel
    by_cases hlt : i < k
    · have kl : i < l.length := by rw [HN.out]; exact hlt
      obtain ⟨p, off, rfl, hp, hx⟩ := HX.out (by rw [HN.out]; omega)
      have c0 := G.keeps.cell p _ _ hp (hx i _ (strC_get l i kl))
      have hs : (l[i]'kl).length ≤ maxLen := HL.out _ (List.getElem_mem kl)
      have c1 : wr.cell? ⟨b, 1, none⟩ = some (.map (some m)) := HC.out.cell 1
      obtain ⟨g, ⟨D, hD, q⟩, q2⟩ := HC.out.bs
      have hat0 := (q (l[i]'kl)).2
      rw [(q2 _).1] at hat0
      have H := Hid.mk hat0
      have HQ := Hid.mk q
      have HQ2 := Hid.mk q2
      have hlt' : (i : Int) < k := by omega
      have HP := Hid.mk (plus_take bd l i kl)
      generalize l[i]'kl = s at *
      clear q q2 hat0 hx h
      go_wp2_with (first
        | (at_lookup; refine wpList_lookup_own_int _ rfl _ _ 51 rfl 9 3 .i64 law9 Tryd.underlying51 Tryd.underlying3 (zero3 _) m (n + i) D rfl hD _ _ rfl (key_str hs) ?_; intro c hat hwc; have HCC : Hid (c = (plus bd (l.take i) s : Int)) := ⟨by have := hat.symm.trans H.out; cases this; rfl⟩; clear hat)
        | (at_mapUpdate; refine wpList_mapUpdate_own _ rfl _ _ _ 51 rfl 9 3 law9 Tryd.underlying51 _ m (n + i) _ rfl hD (by unfold maxLen; omega) _ _ _ rfl rfl (key_str hs) _ [] (plainElem_int Tryd.underlying3 (wrap64_wf _)) ?_; intro w1 hown1 hgrow1))
      have C1 : Cs w1 b f m nf (n + (i + 1)) fl (plus bd (l.take (i + 1))) := by
        have e := HP.out s
        rw [if_pos rfl] at e
        have l1 := (HQ2.out s).2
        exact HC.out.put HQ.out HQ2.out hD.isMap hown1 hgrow1 (fun x hx => by rw [HP.out x, if_neg hx]) (by rw [HCC.out, e]; unfold wrap64; omega) (by omega)
      exact ⟨⟨i + 1, by go_num, by omega, G.trans (Ge.map hgrow1), ⟨C1⟩⟩, by simp [intOf]; omega⟩
    · obtain rfl : i = k := by omega
      have C1 : Cs wr b f m nf (n + i) fl (plus bd l) := by
        have := HC.out
        rwa [List.take_of_length_le (by rw [HN.out]; omega)] at this
      have HC1 := Hid.mk C1
      clear C1 h HC
      go_wp2
      go_end0
      exact ⟨rfl, G, HC1.out⟩
set_option maxHeartbeats 1000000 in
theorem pleave_any (l : List Nm) (h : Cs w b f m nf n fl (plus bd l)) (v : Value) (I : IsRow w (but3 b f m) (strC l) l.length v) (hl : ∀ s ∈ l, s.length ≤ maxLen) (hn : n + l.length ≤ 1000000000) :
    Calls Tryd.prog 73 #[ptr b, v] w fun e w' => e = done ∧ Ge b f m w w' ∧ Cs w' b f m nf (n + l.length) fl bd := by
  obtain ⟨ga, cap, rfl, hc, hx⟩ := I
  have HX := Hid.mk hx
  have HL := Hid.mk hl
  obtain ⟨k, hk⟩ : ∃ k, l.length = k := ⟨_, rfl⟩
  have HN := Hid.mk hk
  rw [hk] at hc hn ⊢
  clear hx hl hk
  go_enter Tryd.func73, Tryd.ntmps73
  go_wp2
  go_loopw [8] (fun c wr => ∃ i : Nat, c = .int .i64 i ∧ i ≤ k ∧ Ge b f m w wr ∧ Hid (Cs wr b f m nf (n + i) fl (plus bd (l.drop i)))) (fun c _ => k - (intOf c).toNat)
  case atStart => exact ⟨0, rfl, Nat.zero_le _, Ge.refl _ _ _ _, ⟨by rw [List.drop_zero]; exact h⟩⟩
  case round =>
    obtain ⟨i, rfl, hi, G, HC⟩ := hrel
    by_cases hlt : i < k
    · have kl : i < l.length := by rw [HN.out]; exact hlt
      obtain ⟨p, off, rfl, hp, hx⟩ := HX.out (by rw [HN.out]; omega)
      have c0 := G.keeps.cell p _ _ hp (hx i _ (strC_get l i kl))
      have hs : (l[i]'kl).length ≤ maxLen := HL.out _ (List.getElem_mem kl)
      have c1 : wr.cell? ⟨b, 1, none⟩ = some (.map (some m)) := HC.out.cell 1
      obtain ⟨g, ⟨D, hD, q⟩, q2⟩ := HC.out.bs
      have hat0 := (q (l[i]'kl)).2
      rw [(q2 _).1] at hat0
      have H := Hid.mk hat0
      have HQ := Hid.mk q
      have HQ2 := Hid.mk q2
      have hlt' : (i : Int) < k := by omega
      have HP := Hid.mk (plus_drop bd l i kl)
      generalize l[i]'kl = s at *
      clear q q2 hat0 hx h
      go_wp2_with (first
        | (at_lookup; refine wpList_lookup_own_int _ rfl _ _ 51 rfl 9 3 .i64 law9 Tryd.underlying51 Tryd.underlying3 (zero3 _) m (n + i) D rfl hD _ _ rfl (key_str hs) ?_; intro c hat hwc; have HCC : Hid (c = (plus bd (l.drop i) s : Int)) := ⟨by have := hat.symm.trans H.out; cases this; rfl⟩; clear hat)
        | (at_mapUpdate; refine wpList_mapUpdate_own _ rfl _ _ _ 51 rfl 9 3 law9 Tryd.underlying51 _ m (n + i) _ rfl hD (by unfold maxLen; omega) _ _ _ rfl rfl (key_str hs) _ [] (plainElem_int Tryd.underlying3 (wrap64_wf _)) ?_; intro w1 hown1 hgrow1))
      have C1 : Cs w1 b f m nf (n + (i + 1)) fl (plus bd (l.drop (i + 1))) := by
        have e := HP.out s
        rw [if_pos rfl] at e
        have l1 := (HQ2.out s).2
        exact HC.out.put HQ.out HQ2.out hD.isMap hown1 hgrow1 (fun x hx => by rw [HP.out x, if_neg hx]) (by rw [HCC.out, e]; unfold wrap64; omega) (by omega)
      exact ⟨⟨i + 1, by go_num, by omega, G.trans (Ge.map hgrow1), ⟨C1⟩⟩, by simp [intOf]; omega⟩
    · obtain rfl : i = k := by omega
      have C1 : Cs wr b f m nf (n + i) fl bd := by
        have := HC.out
        rwa [List.drop_eq_nil_of_le (by rw [HN.out]; omega), plus_nil] at this
      have HC1 := Hid.mk C1
      clear C1 h HC
      go_wp2
      go_end0
      exact ⟨rfl, G, HC1.out⟩
end
end Go.Proofs.YtcbdolflgpmaoaaDoor
