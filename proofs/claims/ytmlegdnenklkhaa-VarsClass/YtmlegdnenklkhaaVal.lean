/- Package vars: without: names taken out of a list. -/
import Derived.Test.YtmlegdnenklkhaaVak
namespace Go.Proofs.Ytmlegdnenklkhaa
open Go.RowKit Go.Shelf Go.Lib Go.Sort
set_option linter.unusedVariables false
set_option linter.unusedSimpArgs false

theorem encN_of {s : Nm} (h : s.length ≤ maxLen) : encN s = .string (str s) := by unfold encN; rw [cutN_of h]
set_option maxHeartbeats 1000000 in
theorem idx_nil (w : World) (f : Value) : Calls Try.prog 30 #[.slice none 0 0, f] w fun e w' => e = .returned (.int .i64 (-1)) ∧ w' = w := by
  go_enter Try.func30, Try.ntmps30
  go_wp2
  go_loopw [8] (fun c wr => c = .int .i64 0 ∧ w = wr) (fun c _ => 0)
  case atStart => exact ⟨rfl, rfl⟩
  case round =>
    obtain ⟨rfl, rfl⟩ := hrel
    go_wp2
    go_ret
    exact ⟨rfl, rfl⟩
set_option maxHeartbeats 1000000 in
theorem del_nil (w : World) (f : Value) : Calls Try.prog 24 #[.slice none 0 0, f] w fun e w' => e = .returned (.slice none 0 0) ∧ w' = w := by
  have C := idx_nil w f
  go_enter Try.func24, Try.ntmps24
  go_wp2_with (go_at_call 30; refine C.mono ?_; rintro e w9 ⟨rfl, rfl⟩)
  go_ret
  exact ⟨rfl, rfl⟩
theorem own_holds {w : World} {B n g cap : Nat} {fr : List Nm} (O : w.ownsRow B 9 1 (.slice (some ⟨g, 0, none⟩) n cap) n (strC fr)) (e : fr.length = n) (hfr : ∀ s ∈ fr, s.length ≤ maxLen) : Holds encN w g 0 fr.toArray := by
  intro j hj
  rw [List.size_toArray] at hj
  have e1 : fr.toArray[j]! = fr[j]'hj := by rw [getElem!_pos fr.toArray j (by simpa using hj)]; simp
  rw [e1, Nat.zero_add]
  constructor
  · have := O.cells (g := g) rfl j _ (strC_get fr j hj)
    simp only [Addr.add, Nat.zero_add] at this
    rw [encN_of (hfr _ (List.getElem_mem hj))]
    split at this
    · rename_i z; subst z; exact this
    · exact this
  · rcases O.2 with ⟨q, _⟩ | ⟨g', cap', cur, q, _, hb, _⟩
    · cases q
    · simp only [Value.slice.injEq, Option.some.injEq, Addr.mk.injEq, and_true] at q
      obtain ⟨rfl, _, rfl⟩ := q
      exact Joins.unfrozen_of_block hb j
/-- the list that is left -/
theorem row_put {w : World} {B g cap q : Nat} {fr fl : List Nm} {xs : List Nm} (H : Holds encN w g 0 fr.toArray) (hs : (fl ++ xs).length = fr.length) (hfl : ∀ s ∈ fl, s.length ≤ maxLen) (hg : g < w.heap.size) (hB : B ≤ g) (hc : fr.length ≤ cap) (hl : fr.length ≤ 1000000000) :
    Below B w (putRow encN (Sort.ahead w q) g 0 (fl ++ xs).toArray) ∧ IsRow (putRow encN (Sort.ahead w q) g 0 (fl ++ xs).toArray) (fun x => B ≤ x ∧ x < (putRow encN (Sort.ahead w q) g 0 (fl ++ xs).toArray).heap.size) (strC fl) fl.length (.slice (some ⟨g, 0, none⟩) fl.length cap) := by
  have hle : fl.length ≤ fr.length := by rw [← hs, List.length_append]; omega
  refine ⟨⟨rfl, rfl, rfl, by rw [size_putRow]; exact Nat.le_refl _, fun i hi => putRow_block _ _ _ _ _ _ (by omega)⟩, _, cap, rfl, ⟨by omega, by omega⟩, fun hn => ⟨g, 0, rfl, ⟨hB, by rw [size_putRow]; exact hg⟩, fun j u hj => ?_⟩⟩
  have hj' := (List.getElem?_eq_some_iff.1 hj).1
  simp only [strC, List.length_map] at hj'
  rw [strC_get fl j hj'] at hj
  have H2 := holds_putRow encN (Sort.ahead w q) g 0 fr.toArray (fl ++ xs).toArray H (by simpa using hs)
  have := (H2 j (by rw [List.size_toArray, List.length_append]; omega)).1
  have e1 : (fl ++ xs).toArray[j]! = fl[j]'hj' := by
    rw [getElem!_pos (fl ++ xs).toArray j (by rw [List.size_toArray, List.length_append]; omega)]
    simp [List.getElem_append_left hj']
  rw [e1, encN_of (hfl _ (List.getElem_mem hj'))] at this
  rw [this]
  exact hj
theorem filter_cut {fr l : List Nm} (hfr : ∀ s ∈ fr, s.length ≤ maxLen) : (fr.filter fun x => !decide (0 < plus (fun _ => 0) l (cutN x))) = fr.filter fun x => !l.contains x := by
  refine List.filter_congr (fun x hx => ?_)
  rw [cutN_of (hfr x hx)]
  congr 1
  have e : plus (fun _ => 0) l x = l.count x := Nat.zero_add _
  rw [e, Bool.eq_iff_iff, decide_eq_true_eq, List.contains_iff_mem, List.count_pos_iff]
set_option maxRecDepth 100000 in
set_option maxHeartbeats 4000000 in
theorem without_any {w : World} {B : Nat} {ok : Nat → Prop} (fr : List Nm) (r : Value) (O : w.ownsRow B 9 1 r fr.length (strC fr)) (hB : B ≤ w.heap.size) (hfr : ∀ s ∈ fr, s.length ≤ maxLen) (hlen : fr.length ≤ 1000000000) (l : List Nm) (vl : Value) (R : IsRow w ok (strC l) l.length vl) (hl : ∀ s ∈ l, s.length ≤ maxLen) :
    Calls Try.prog 19 #[r, vl] w fun e w' => ∃ v', e = .returned v' ∧ Below B w w' ∧ IsRow w' (fun g => B ≤ g ∧ g < w'.heap.size) (strC (fr.filter fun s => !l.contains s)) (fr.filter fun s => !l.contains s).length v' := by
  have HR := Hid.mk R
  obtain ⟨fl, hfl0⟩ : ∃ fl, (fr.filter fun s => !l.contains s) = fl := ⟨_, rfl⟩
  rw [hfl0]
  have HFL := Hid.mk hfl0
  clear hfl0
  obtain ⟨ga, cap, rfl, hc, hx⟩ := R
  have HX := Hid.mk hx
  have HL := Hid.mk hl
  have HO := Hid.mk O
  have HFR := Hid.mk hfr
  obtain ⟨k, hk⟩ : ∃ k, l.length = k := ⟨_, rfl⟩
  have HN := Hid.mk hk
  rw [hk] at hc HR ⊢
  have M0 := Mb.made w
  have K1 := Joins.below_alloc1 w (.map #[] 0)
  have K2 : Below w.heap.size w ((w.alloc (.map #[] 0)).alloc (.cells #[.map (some w.heap.size)] 66)) := K1.alloc K1.size _
  have M1 : Mb ((w.alloc (.map #[] 0)).alloc (.cells #[.map (some w.heap.size)] 66)) w.heap.size 0 (fun _ => 0) := M0.of_block ((Joins.below_alloc1 (w.alloc (.map #[] 0)) (.cells #[.map (some w.heap.size)] 66)).block _ M0.lt)
  have X1 : Bx ((w.alloc (.map #[] 0)).alloc (.cells #[.map (some w.heap.size)] 66)) (w.heap.size + 1) #[.map (some w.heap.size)] 66 := by
    have := heap_alloc_new (w.alloc (.map #[] 0)) (.cells #[.map (some w.heap.size)] 66)
    rwa [World.size_alloc] at this
  have S1 := Hid.mk (And.intro M1 (And.intro X1 K2))
  have hmm := @run_makeMap Try.prog
  clear hx hl hk M0 M1 K1 K2 X1 hfr O
  go_enter Try.func19, Try.ntmps19
  go_wp2
  generalize hz : w.heap.size = z at *
  generalize ((w.alloc (.map #[] 0)).alloc (.cells #[.map (some z)] 66)) = w1 at *
  go_loopw [11] (fun c wr => ∃ i : Nat, c = .int .i64 i ∧ i ≤ k ∧ Hid (Below z w wr) ∧ Hid (Mb wr z i (plus (fun _ => 0) (l.take i))) ∧ Hid (Bx wr (z + 1) #[.map (some z)] 66)) (fun c _ => k - (intOf c).toNat)
  case atStart => exact ⟨0, rfl, Nat.zero_le _, ⟨S1.out.2.2⟩, ⟨by rw [List.take_zero, plus_nil]; exact S1.out.1⟩, ⟨S1.out.2.1⟩⟩
  case round =>
    obtain ⟨i, rfl, hi, BW, MW, XW⟩ := hrel
    have y0 := XW.out.cell 0
    by_cases hlt : i < k
    · have kl : i < l.length := by rw [HN.out]; exact hlt
      obtain ⟨g, off, rfl, hg, hx⟩ := HX.out (by rw [HN.out]; omega)
      have c0 := hx i _ (strC_get l i kl)
      replace c0 := (BW.out.cell (by rw [← hz]; exact World.block_lt_of_cell? _ _ c0)).trans c0
      have hs : (l[i]'kl).length ≤ maxLen := HL.out _ (List.getElem_mem kl)
      obtain ⟨gm, ⟨D, hD, q1⟩, q2⟩ := MW.out
      have hat0 := (q1 (l[i]'kl)).2
      rw [(q2 _).1] at hat0
      have H := Hid.mk hat0
      have HQ := Hid.mk q1
      have HQ2 := Hid.mk q2
      have hlt' : (i : Int) < k := by omega
      have HP := Hid.mk (plus_take (fun _ => 0) l i kl)
      generalize l[i]'kl = s at *
      clear q1 q2 hat0 hx HR S1 HO
      go_wp2_with (first
        | (at_lookup; refine wpList_lookup_own_int _ rfl _ _ 66 rfl 9 3 .i64 law9 Try.underlying66 Try.underlying3 (zero3 _) z i D rfl hD _ _ rfl (key_str hs) ?_; intro c hat hwc; have HCC : Hid (c = (plus (fun _ => 0) (l.take i) s : Int)) := ⟨by have := hat.symm.trans H.out; cases this; rfl⟩; clear hat)
        | (at_mapUpdate; refine wpList_mapUpdate_own _ rfl _ _ _ 66 rfl 9 3 law9 Try.underlying66 _ z i _ rfl hD (by unfold maxLen; omega) _ _ _ rfl rfl (key_str hs) _ [] (plainElem_int Try.underlying3 (wrap64_wf _)) ?_; intro w1 hown1 hgrow1))
      have e := HP.out s
      rw [if_pos rfl] at e
      have l1 := (HQ2.out s).2
      have M1 : Mb w1 z (i + 1) (plus (fun _ => 0) (l.take (i + 1))) := Mb.put HQ.out HQ2.out hD.isMap hown1 (fun x hx => by rw [HP.out x, if_neg hx]) (by rw [HCC.out, e]; unfold wrap64; omega) (by omega)
      exact ⟨⟨i + 1, by go_num, by omega, ⟨BW.out.grown hgrow1 (by rw [← hz]; exact BW.out.size) (fun j hj => by cases hj; exact Nat.le_refl _)⟩, ⟨M1⟩, ⟨(hgrow1.block _ XW.out.lt (fun e => by have := Option.some.inj e; omega)).trans XW.out⟩⟩, by simp [intOf]; omega⟩
    · obtain rfl : i = k := by omega
      have M1 := MW.out
      rw [List.take_of_length_le (by rw [HN.out]; omega)] at M1
      have hsz := BW.out.size
      have O1 : wr.ownsRow B 9 1 r fr.length (strC fr) := HO.out.kept (row := none) ⟨BW.out.os, BW.out.tape, BW.out.output, BW.out.size, fun j hj _ => BW.out.block j (by omega)⟩ (by cases r.ownBlock <;> simp)
      have hfr := HFR.out
      rcases O1.2 with ⟨rfl, hn0⟩ | ⟨g, cp, cur, rfl, hbg, hblk, hnc, hcm, _⟩
      · have e0 : fr = [] := List.eq_nil_of_length_eq_zero hn0
        subst e0
        have HB := Hid.mk BW.out
        clear MW M1 O1 HO S1 HR
        have ef : fl = [] := by rw [← HFL.out]; rfl
        subst ef
        have C := del_nil wr (.func (.func 25) #[] #[ptr (z + 1)])
        go_wp2_with (go_at_call 24; refine C.mono ?_; rintro e w9 ⟨rfl, rfl⟩)
        go_ret
        exact ⟨_, rfl, HB.out.mono (by omega), none, 0, rfl, ⟨Nat.le_refl _, by simp⟩, fun q => absurd q (Nat.lt_irrefl 0)⟩
      · have eg : ∀ args w, (callFunc 25 args).run Try.prog w = .ok (.enter 25 args) w := enters_of Try.func25 (by kernel_rfl) rfl
        have HH := own_holds O1 rfl hfr
        have gl := (Array.getElem?_eq_some_iff.1 hblk).1
        have gz : g < z := by
          have := (HO.out.lt g rfl).2
          omega
        have v23 : ∀ w, (zeroValue (Try.l24_ren.t 23)).run Try.prog w = .ok (encN []) w := by
          have : encN [] = .string ⟨#[]⟩ := by simp [encN, cutN, str]
          rw [this]
          exact Try.zeroValue9
        have C := AnyE.slices_DeleteFunc Try.l24 encN (fun _ => rfl) (fun s : Nm => decide (0 < plus (fun _ => 0) l (cutN s))) 25 #[ptr (z + 1)] eg [] v23 g 0 cp fr.toArray wr (pred25 M1 (XW.out.cell 0)) (over25 M1 (XW.out.cell 0) (by omega) (by omega)) HH (by simp; omega) (by simpa using hnc)
        change Calls Try.prog 24 _ _ _ at C
        rw [List.size_toArray, show fr.toArray.toList = fr by simp, filter_cut hfr] at C
        have hfl : (fr.filter fun s => !l.contains s).length ≤ fr.length := List.length_filter_le _ _
        have hfl2 : ∀ s ∈ fr.filter (fun s => !l.contains s), s.length ≤ maxLen := fun s hs => hfr s (List.mem_filter.1 hs).1
        rw [HFL.out] at C hfl hfl2
        have HFIN := Hid.mk (fun (q : Nat) => row_put (w := wr) (B := B) (g := g) (cap := cp) (q := q) (fl := fl) (xs := List.replicate (fr.length - fl.length) []) HH (by simp; omega) hfl2 gl hbg hnc hlen)
        have HB := Hid.mk BW.out
        generalize fr.length - fl.length = rest at *
        generalize fr.length = nf at *
        have HNL : Hid (fl.length = fl.length) := ⟨rfl⟩
        obtain ⟨nl, hnl⟩ : ∃ nl, fl.length = nl := ⟨_, rfl⟩
        rw [hnl] at C HFIN
        replace HNL := Hid.mk hnl
        clear hnl hfl
        clear MW M1 O1 HO S1 HR HH hfl2 hblk eg v23 hfr HFR
        go_wp2_with (go_at_call 24; refine C.mono ?_; rintro e w9 ⟨rfl, q, rfl⟩)
        go_ret
        exact ⟨_, rfl, (HB.out.mono (by omega)).trans (HFIN.out q).1, by rw [HNL.out]; exact (HFIN.out q).2⟩
end Go.Proofs.Ytmlegdnenklkhaa
