/- Package vars' reader: a name. -/
import Derived.Test.YtmlegdnenklkhaaVaa
namespace Go.Proofs.Ytmlegdnenklkhaa
open Go.RowKit
open Go.Maps (Keyed string_keyed)
set_option linter.unusedVariables false
set_option linter.unusedSimpArgs false

/-- which names are bound -/
abbrev scD (bd : Nm → Nat) : Nm → Bool := fun y => decide (0 < bd y)
/-- one more, if it is free and not there yet -/
def putN (sc : Nm → Bool) (s : Nm) (fr : List Nm) : List Nm := if s = [] ∨ sc s = true then fr else if s ∈ fr then fr else fr ++ [s]
theorem own_fr0 {w : World} {base size n g m cap b j : Nat} {e : TypeId} {xs : List Value} {u : Value} (h : w.ownsRow base e size (.slice (some ⟨g, 0, none⟩) m cap) n xs) (hb : g ≠ b) : (w.setCell ⟨b, j, none⟩ u).ownsRow base e size (.slice (some ⟨g, 0, none⟩) m cap) n xs :=
  h.kept (row := some b) ((Fr.refl b w).set j u) (.inr (fun e => hb (by simpa [Value.ownBlock] using e)))
section
variable {w w' : World} {b p q n : Nat} {bd : Nm → Nat} {fr : List Nm} {v : Value}
/-- a name has been read once more -/
theorem Rs.met (h : Rs w b p q n bd fr v) {c' : Nm → Nat} {w1 : World} (hb : Mb w1 q (n + 1) c') (hc : ∀ s, 0 < c' s ↔ s ∈ fr) (hg : w.grownBy w1 (some q)) : Rs w1 b p q (n + 1) bd fr v := by
  obtain ⟨l1, l2, l3⟩ := h.lts
  exact ⟨(hg.block b l1 (fun z => h.ne.2.1 (Option.some.inj z))).trans h.blk, (h.bs.of_block (hg.block p l2 (fun z => h.ne.2.2 (Option.some.inj z)))).mono (by omega), ⟨c', hb, hc⟩,
    h.row.kept hg (.inr h.no.2.2), h.ne, h.no, Nat.le_succ_of_le h.len⟩
/-- a name has been put behind the others -/
theorem Rs.app (h : Rs w b p q n bd fr v) {s : Nm} {o : Obj} {g cap : Nat} {w1 : World} (row1 : w1.ownsRow 0 9 1 (.slice (some ⟨g, 0, none⟩) (fr.length + 1) cap) (fr.length + 1) (strC fr ++ [.string (str s)]))
    (hg : (w.alloc o).grownBy w1 v.ownBlock) (hat : v.ownBlock = some g ∨ g = w.heap.size + 1) :
    (w1.setCell ⟨b, 2, none⟩ (.slice (some ⟨g, 0, none⟩) (fr.length + 1) cap)).heap[b]? = some (.cells #[.map (some p), .map (some q), .slice (some ⟨g, 0, none⟩) (fr.length + 1) cap] 69 (0, 0)) ∧
    (w1.setCell ⟨b, 2, none⟩ (.slice (some ⟨g, 0, none⟩) (fr.length + 1) cap)).heap[p]? = w.heap[p]? ∧
    (w1.setCell ⟨b, 2, none⟩ (.slice (some ⟨g, 0, none⟩) (fr.length + 1) cap)).heap[q]? = w.heap[q]? ∧
    (w1.setCell ⟨b, 2, none⟩ (.slice (some ⟨g, 0, none⟩) (fr.length + 1) cap)).ownsRow 0 9 1 (.slice (some ⟨g, 0, none⟩) (fr.length + 1) cap) (fr.length + 1) (strC fr ++ [.string (str s)]) ∧
    Fe b p q v.ownBlock (some g) w (w1.setCell ⟨b, 2, none⟩ (.slice (some ⟨g, 0, none⟩) (fr.length + 1) cap)) ∧ g ≠ b ∧ g ≠ p ∧ g ≠ q := by
  obtain ⟨l1, l2, l3⟩ := h.lts
  have K := Joins.below_alloc1 w o
  have old : ∀ i, i < w.heap.size → v.ownBlock ≠ some i → w1.heap[i]? = w.heap[i]? := fun i hi hne => (hg.block i (Nat.lt_of_lt_of_le hi K.size) (fun e => hne e.symm)).trans (K.block i hi)
  have gb : g ≠ b := by
    rcases hat with e | e
    · intro z; subst z; exact h.no.1 e
    · omega
  have gp : g ≠ p := by
    rcases hat with e | e
    · intro z; subst z; exact h.no.2.1 e
    · omega
  have gq : g ≠ q := by
    rcases hat with e | e
    · intro z; subst z; exact h.no.2.2 e
    · omega
  have b1 : w1.heap[b]? = some (.cells #[.map (some p), .map (some q), v] 69 (0, 0)) := (old b l1 h.no.1).trans h.blk
  have sb : ∀ i, i ≠ b → (w1.setCell ⟨b, 2, none⟩ (.slice (some ⟨g, 0, none⟩) (fr.length + 1) cap)).heap[i]? = w1.heap[i]? := fun i hi => setCell_block _ _ _ _ hi
  refine ⟨Joins.block_setCell (i := 2) b1 _, (sb p (fun e => h.ne.1 e.symm)).trans (old p l2 h.no.2.1), (sb q (fun e => h.ne.2.1 e.symm)).trans (old q l3 h.no.2.2), ?_, ?_, gb, gp, gq⟩
  · exact own_fr0 row1 gb
  · refine ⟨hg.os, hg.tape, hg.output, ?_, fun i hi => (sb i hi.1).trans (old i hi.2.2.2.2 hi.2.2.2.1), ?_⟩
    · have := K.size
      have := hg.size
      simp only [World.setCell, Array.size_modify]
      omega
    · rcases hat with e | e
      · exact .inl e.symm
      · exact .inr ⟨g, rfl, by omega⟩
set_option maxHeartbeats 1000000 in
theorem vname_any (h : Rs w b p q n bd fr v) (s : Nm) (hs : s.length ≤ maxLen) (hn : n + 1 ≤ 1000000000) : Calls Try.prog 31 #[ptr b, .string (str s)] w (Out w b p q (n + 1) bd (putN (scD bd) s fr) v) := by
  have c0 : w.cell? ⟨b, 0, none⟩ = some (.map (some p)) := h.cell 0
  have c1 : w.cell? ⟨b, 1, none⟩ = some (.map (some q)) := h.cell 1
  have c2 : w.cell? ⟨b, 2, none⟩ = some v := h.cell 2
  have z2 := h.z 2
  by_cases e0 : s = []
  · have ep : putN (scD bd) s fr = fr := by unfold putN; rw [if_pos (.inl e0)]
    rw [ep]
    have q' : (str s).toList = [] := by rw [e0, ByteArray.toList_eq]; rfl
    have H := Hid.mk (h.mono (Nat.le_succ n))
    clear h ep e0
    go_enter Try.func31, Try.ntmps31
    go_wp2
    go_end0
    exact ⟨v, rfl, Fe.refl _ _ _ _ _, H.out⟩
  · have q' : ¬ (str s).toList = [] := by rw [ByteArray.toList_eq, str_list]; exact e0
    have qb : ((str s).toList == []) = false := by rw [ByteArray.toList_eq, str_list]; simpa using e0
    obtain ⟨gb, ⟨DB, hDB, qB⟩, qB2⟩ := h.bs
    have hat0 := (qB s).2
    rw [(qB2 s).1] at hat0
    obtain ⟨c, hrun, hat, _⟩ := hDB.lookup_int law9 Try.underlying66 Try.underlying3 (zero3 _) (key_str hs)
    obtain rfl : c = (bd s : Int) := by have := hat.symm.trans hat0; cases this; rfl
    clear hat
    by_cases e1 : 0 < bd s
    · have ep : putN (scD bd) s fr = fr := by unfold putN; rw [if_pos (.inr (decide_eq_true e1))]
      rw [ep]
      have H := Hid.mk (h.mono (Nat.le_succ n))
      have gt : (0 : Int) < bd s := by omega
      clear h ep e0 qB qB2 hat0
      go_enter Try.func31, Try.ntmps31
      go_wp2
      go_end0
      exact ⟨v, rfl, Fe.refl _ _ _ _ _, H.out⟩
    · have z0 : bd s = 0 := by omega
      have ng : ¬ (0 : Int) < bd s := by omega
      obtain ⟨cm, ⟨gm, ⟨DM, hDM, qM⟩, qM2⟩, hcm⟩ := h.ms
      have hat1 := (qM s).2
      rw [(qM2 s).1] at hat1
      have ns : ¬ (s = [] ∨ scD bd s = true) := by
        rintro (x | x)
        · exact e0 x
        · exact e1 (of_decide_eq_true x)
      obtain ⟨c', hc'⟩ : ∃ c' : Nm → Nat, c' = fun x => if x = s then cm s + 1 else cm x := ⟨_, rfl⟩
      have c's : c' s = cm s + 1 := by rw [hc']; simp
      have c'x : ∀ x, x ≠ s → c' x = cm x := fun x hx => by rw [hc']; simp [hx]
      have l1 := (qM2 s).2
      obtain ⟨d, hrun2, hat2, _⟩ := hDM.lookup_int law9 Try.underlying66 Try.underlying3 (zero3 _) (key_str hs)
      have HD : Hid (d = (cm s : Int)) := ⟨by have := hat2.symm.trans hat1; cases this; rfl⟩
      clear hat2 hat1 hat0 qB qB2
      by_cases e2 : s ∈ fr
      · have ep : putN (scD bd) s fr = fr := by unfold putN; rw [if_neg ns, if_pos e2]
        rw [ep]
        have gm0 : (d == 0) = false := by have := (hcm s).2 e2; rw [HD.out]; simp; omega
        have H := Hid.mk h
        have HQ := Hid.mk qM
        have HQ2 := Hid.mk qM2
        have HC := Hid.mk (And.intro c's (And.intro c'x (And.intro hcm e2)))
        clear h ep e0 qM qM2 c's c'x hc' hcm e2 ns z0 e1
        go_enter Try.func31, Try.ntmps31
        go_wp2_with (at_mapUpdate; refine wpList_mapUpdate_own _ rfl _ _ _ 66 rfl 9 3 law9 Try.underlying66 _ q n _ rfl hDM (by unfold maxLen; omega) _ _ _ rfl rfl (key_str hs) _ [] (plainElem_int Try.underlying3 (wrap64_wf _)) ?_; intro w1 hown1 hgrow1)
        go_end0
        obtain ⟨k1, k2, k3, k4⟩ := HC.out
        have M1 : Mb w1 q (n + 1) c' := Mb.put HQ.out HQ2.out hDM.isMap hown1 k2 (by rw [k1, HD.out]; unfold wrap64; omega) (by omega)
        refine ⟨v, rfl, Fe.of_map (.inr rfl) hgrow1, H.out.met M1 (fun x => ?_) hgrow1⟩
        by_cases ex : x = s
        · subst ex
          rw [k1]
          exact ⟨fun _ => k4, fun _ => by omega⟩
        · rw [k2 x ex]; exact k3 x
      · have ep : putN (scD bd) s fr = fr ++ [s] := by unfold putN; rw [if_neg ns, if_neg e2]
        rw [ep]
        have cz : cm s = 0 := by
          rcases Nat.eq_zero_or_pos (cm s) with x | x
          · exact x
          · exact absurd ((hcm s).1 x) e2
        have gm0 : (d == 0) = true := by rw [HD.out, cz]; rfl
        have H := Hid.mk h
        have HQ := Hid.mk qM
        have HQ2 := Hid.mk qM2
        have HDM := Hid.mk (fun (W : World) (e : W.heap[q]? = w.heap[q]?) => owns_of_block hDM e)
        have HC := Hid.mk (And.intro c's (And.intro c'x (And.intro hcm (And.intro e2 cz))))
        obtain ⟨i0, hi, hz0, hz1, hz2⟩ := info_parts info9
        have hl := h.len
        have hrow := Hid.mk h.row
        obtain ⟨k, hk⟩ : ∃ k, fr.length = k := ⟨_, rfl⟩
        have HK := Hid.mk hk
        have HM : Hid (k + 1 ≤ maxLen ∧ (k + 1) * 16 ≤ 140737488355328) := ⟨by unfold maxLen; omega, by omega⟩
        rw [hk] at hrow
        have K0 := Hid.mk (Joins.below_alloc1 w (.cells #[.string (str s)] 9))
        clear h ep e0 qM qM2 c's c'x hc' hcm e2 ns z0 e1 cz hk hDM
        go_enter Try.func31, Try.ntmps31
        go_wp2_with (first
          | (at_builtin; refine wpList_append_lies _ rfl (.tmp 26) (.tmp 28) 22 rfl 0 9 i0 _ 1 16 Try.underlying22 hi hz0 hz1 hz2 rfl (by decide) v k (strC fr) rfl (hrow.out.alloc _) ⟨w.heap.size, 0, none⟩ 1 1 [.string (str s)] rfl rfl new_one one_cell (by decide) HM.out.1 HM.out.2 (Nat.zero_le _) (w.heap.size + 1) (by simp) ?_; intro g cap w1 row1 hg1 hat1 hlt1; have AP := Hid.mk (H.out.app (by rw [HK.out]; exact row1) hg1 hat1); rw [HK.out] at AP; have b1 : w1.cell? ⟨b, 2, none⟩ = some v := (World.cell?_of_block ((hg1.block b (Nat.lt_of_lt_of_le H.out.lt K0.out.size) (fun e => H.out.no.1 e.symm)).trans (K0.out.block b H.out.lt))).trans c2; have b2 : w1.cell? ⟨b, 1, none⟩ = some (.map (some q)) := (World.cell?_of_block ((hg1.block b (Nat.lt_of_lt_of_le H.out.lt K0.out.size) (fun e => H.out.no.1 e.symm)).trans (K0.out.block b H.out.lt))).trans c1; have f2 : w1.frozen? ⟨b, 2, none⟩ = false := Joins.unfrozen_of_block (((hg1.block b (Nat.lt_of_lt_of_le H.out.lt K0.out.size) (fun e => H.out.no.1 e.symm)).trans (K0.out.block b H.out.lt)).trans H.out.blk) 2; clear row1 hg1 hat1 hlt1)
          | (at_lookup; refine wpList_lookup_own_int _ rfl _ _ 66 rfl 9 3 .i64 law9 Try.underlying66 Try.underlying3 (zero3 _) q n DM rfl (HDM.out _ AP.out.2.2.1) _ _ rfl (key_str hs) ?_; intro d2 hat2 hw2; have HD2 := Hid.mk hat2; clear hat2 hw2)
          | (at_mapUpdate; refine wpList_mapUpdate_own _ rfl _ _ _ 66 rfl 9 3 law9 Try.underlying66 _ q n _ rfl (HDM.out _ AP.out.2.2.1) (by unfold maxLen; omega) _ _ _ rfl rfl (key_str hs) _ [] (plainElem_int Try.underlying3 (wrap64_wf _)) ?_; intro w2 hown2 hgrow2))
        go_end0
        obtain ⟨k1, k2, k3, k4, k5⟩ := HC.out
        obtain ⟨a1, a2, a3, a4, a5, a6, a7, a8⟩ := AP.out
        have ed : d2 = (cm s : Int) := by
          have e := HQ.out s
          have e2 := HD2.out
          rw [e.2, (HQ2.out s).1] at e2
          cases e2; rfl
        have M1 : Mb w2 q (n + 1) c' := Mb.put HQ.out HQ2.out (HDM.out _ a3).isMap hown2 k2 (by rw [k1, ed]; unfold wrap64; omega) (by omega)
        have F1 : Fe b p q (some g) (some g) _ w2 := Fe.of_map (.inr rfl) hgrow2
        obtain ⟨l1, l2, l3⟩ := H.out.lts
        have sz := a5.size
        refine ⟨.slice (some ⟨g, 0, none⟩) (k + 1) cap, rfl, a5.trans F1, ⟨(hgrow2.block b (Nat.lt_of_lt_of_le l1 sz) (fun z => H.out.ne.2.1 (Option.some.inj z))).trans a1, ((H.out.bs.of_block a2).of_block (hgrow2.block p (Nat.lt_of_lt_of_le l2 sz) (fun z => H.out.ne.2.2 (Option.some.inj z)))).mono (by omega), ⟨c', M1, fun x => ?_⟩, ?_, H.out.ne, ?_, ?_⟩⟩
        · rw [List.mem_append, List.mem_singleton]
          by_cases ex : x = s
          · subst ex
            rw [k1]
            exact ⟨fun _ => .inr rfl, fun _ => by omega⟩
          · rw [k2 x ex, k3 x]
            exact ⟨fun z => .inl z, fun z => z.resolve_right ex⟩
        · rw [strC_snoc, List.length_append, HK.out]
          exact a4.kept hgrow2 (.inr (fun e => a8 (by simpa [Value.ownBlock] using e)))
        · exact ⟨fun e => a6 (by simpa [Value.ownBlock] using e), fun e => a7 (by simpa [Value.ownBlock] using e), fun e => a8 (by simpa [Value.ownBlock] using e)⟩
        · have := HK.out
          rw [List.length_append, HK.out, List.length_singleton]
          omega
end
end Go.Proofs.Ytmlegdnenklkhaa
