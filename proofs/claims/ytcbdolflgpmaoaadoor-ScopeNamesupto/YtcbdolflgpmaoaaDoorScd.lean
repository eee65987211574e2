/- The document's check: atoms. -/
import Derived.Test.YtcbdolflgpmaoaaDoorScc
namespace Go.Proofs.YtcbdolflgpmaoaaDoor
open Go.RowKit
set_option linter.unusedVariables false
set_option linter.unusedSimpArgs false

/-- any block but b -/
abbrev but (b : Nat) : Nat → Prop := fun g => g ≠ b
theorem keeps_fr {b : Nat} {w w' : World} (h : Fr b w w') : Keeps (but b) (but b) w w' := ⟨fun g off u hg hc => h.cell hc (fun e => hg (Option.some.inj e)), fun _ h => h⟩
theorem orF_some (x : Int × Int) (b : Flt) : orF (some x) b = some x := rfl
theorem orF_assoc (a b c : Flt) : orF (orF a b) c = orF a (orF b c) := by cases a <;> rfl
theorem orF_nil (a : Flt) : orF a none = a := by cases a <;> rfl
theorem Ck.fr_alloc {w : World} {b : Nat} {vd vb : Value} {f : Flt} (h : Ck w b vd vb f) (o : Obj) : Ck (w.alloc o) b vd vb f := h.later (Joins.below_alloc1 w o)
theorem Ck.drew {w : World} {b : Nat} {vd vb : Value} {f : Flt} (h : Ck w b vd vb f) : Ck w.drew b vd vb f := h
/-- a block's cells -/
def Bx (w : World) (m : Nat) (cs : Array Value) (t : TypeId) : Prop := w.heap[m]? = some (.cells cs t (0, 0))
theorem Bx.cell {w : World} {m : Nat} {cs : Array Value} {t : TypeId} (h : Bx w m cs t) (j : Nat) : w.cell? ⟨m, j, none⟩ = cs[j]? := Joins.cell_of_block h j
theorem Bx.lt {w : World} {m : Nat} {cs : Array Value} {t : TypeId} (h : Bx w m cs t) : m < w.heap.size := (Array.getElem?_eq_some_iff.1 h).1
theorem Bx.fr {w w' : World} {b m : Nat} {cs : Array Value} {t : TypeId} (h : Bx w m cs t) (k : Fr b w w') (hm : m ≠ b) : Bx w' m cs t := (k.block m h.lt (fun e => hm (Option.some.inj e))).trans h
theorem atmC_get (ts : List Atm) (k : Nat) (h : k < ts.length) : (atmC ts)[k * 2]? = some (.string (str (ts[k]'h).name)) ∧ (atmC ts)[k * 2 + 1]? = some (.int .i64 (ts[k]'h).num) := by
  induction ts generalizing k with
  | nil => simp at h
  | cons d r ih =>
    have e : atmC (d :: r) = [.string (str d.name), .int .i64 d.num] ++ atmC r := by simp [atmC]
    rw [e]
    cases k with
    | zero => simp
    | succ k =>
      have := ih k (by simpa using h)
      have e3 : (k + 1) * 2 = k * 2 + 2 := by omega
      rw [e3]
      simpa using this
set_option maxHeartbeats 2000000 in
theorem atoms_any {w : World} {b : Nat} {vd vb : Value} {f : Flt} (h : Ck w b vd vb f) (k a m : Int) (n : ByteArray) (ts : List Atm) (vt v5 v6 v7 : Value) (T : IsRow w (but b) (atmC ts) ts.length vt) (is : List Nm) (vi : Value) (I : IsRow w (but b) (strC is) is.length vi) :
    Calls Tryd.prog 50 #[ptr b, .agg #[.int .i64 k, .int .i64 a, .string n, .int .i64 m, vt, v5, v6, v7], vi] w fun e w' => e = done ∧ Fr b w w' ∧ Ck w' b vd vb (orF f (atmF a (fun x => is.contains x) ts)) := by
  obtain ⟨ga, cap, rfl, hc, hx⟩ := T
  obtain ⟨R, hR⟩ : ∃ R, orF f (atmF a (fun x => is.contains x) ts) = R := ⟨_, rfl⟩
  have HR : Hid (orF f (atmF a (fun x => is.contains x) (ts.drop 0)) = R) := ⟨by rw [List.drop_zero]; exact hR⟩
  rw [hR]
  have HX : Hid (0 < ts.length → ∃ g off, ga = some ⟨g, off, none⟩ ∧ but b g ∧ ∀ (j : Nat) (u : Value), (atmC ts)[j]? = some u → w.cell? ⟨g, off + j, none⟩ = some u) := ⟨hx⟩
  have HI : Hid (IsRow w (but b) (strC is) is.length vi) := ⟨I⟩
  obtain ⟨l, hl⟩ : ∃ l, ts.length = l := ⟨_, rfl⟩
  have HN : Hid (ts.length = l) := ⟨hl⟩
  rw [hl] at hc ⊢
  have lt := h.lt
  have H1 := h.fr_alloc (.cells #[.int .i64 k, .int .i64 a, .string n, .int .i64 m, .slice ga l cap, v5, v6, v7] 45)
  have X1 : Bx (w.alloc (.cells #[.int .i64 k, .int .i64 a, .string n, .int .i64 m, .slice ga l cap, v5, v6, v7] 45)) w.heap.size #[.int .i64 k, .int .i64 a, .string n, .int .i64 m, .slice ga l cap, v5, v6, v7] 45 := heap_alloc_new w _
  have F1 : Fr b w (w.alloc (.cells #[.int .i64 k, .int .i64 a, .string n, .int .i64 m, .slice ga l cap, v5, v6, v7] 45)) := (Fr.refl b w).alloc _
  clear hR hl hx h I
  go_enter Tryd.func50, Tryd.ntmps50
  go_wp2
  generalize w.alloc (.cells #[.int .i64 k, .int .i64 a, .string n, .int .i64 m, .slice ga l cap, v5, v6, v7] 45) = w1 at *
  go_loopw [6] (fun c wr => ∃ (j : Nat) (fk : Flt), c = .int .i64 j ∧ j ≤ l ∧ Ck wr b vd vb fk ∧ Hid (orF fk (atmF a (fun x => is.contains x) (ts.drop j)) = R) ∧ Fr b w wr ∧ Bx wr w.heap.size #[.int .i64 k, .int .i64 a, .string n, .int .i64 m, .slice ga l cap, v5, v6, v7] 45) (fun c _ => l - (intOf c).toNat)
  case atStart => exact ⟨0, f, rfl, Nat.zero_le _, H1, HR, F1, X1⟩
  case round =>
    obtain ⟨j, fk, rfl, hj, HC, HK, FW, XW⟩ := hrel
    have x1 : wr.cell? ⟨w.heap.size, 1, none⟩ = some (.int .i64 a) := XW.cell 1
    have x4 : wr.cell? ⟨w.heap.size, 4, none⟩ = some (.slice ga l cap) := XW.cell 4
    by_cases hlt : j < l
    · have kl : j < ts.length := by rw [HN.out]; exact hlt
      obtain ⟨g, off, rfl, hg, hx⟩ := HX.out (by omega)
      have c0 := hx _ _ (atmC_get ts j kl).1
      replace c0 := (keeps_fr FW).cell g _ _ hg c0
      have hst := HK.out
      rw [List.drop_eq_getElem_cons kl, atmF] at hst
      have hlt' : (j : Int) < l := by omega
      have C := has_any (w := wr) is vi (HI.out.keeps (keeps_fr FW)) (ts[j]'kl).name
      have HFW : Hid (Fr b w wr) := ⟨FW⟩
      have HXW : Hid (Bx wr w.heap.size #[.int .i64 k, .int .i64 a, .string n, .int .i64 m, .slice (some ⟨g, off, none⟩) l cap, v5, v6, v7] 45) := ⟨XW⟩
      have HCK : Hid (Ck wr b vd vb fk) := ⟨HC⟩
      by_cases q : (ts[j]'kl).name = []
      · rw [if_neg (fun z => z.1 q)] at hst
        have HK' : Hid (orF fk (atmF a (fun x => is.contains x) (ts.drop (j + 1))) = R) := ⟨hst⟩
        have q' : (str (ts[j]'kl).name).toList = [] := by rw [q, ByteArray.toList_eq]; rfl
        generalize str (ts[j]'kl).name = t at c0 q' C
        clear hst hx HK HR HX q C H1 X1 F1 HI FW XW HC
        go_wp2
        exact ⟨⟨j + 1, fk, by go_num, by omega, HCK.out, HK', HFW.out, HXW.out⟩, by simp [intOf]; omega⟩
      · have q' : ¬ (str (ts[j]'kl).name).toList = [] := by
          rw [ByteArray.toList_eq, str_list]
          exact q
        have q2 : (!(str (ts[j]'kl).name).toList.isEmpty) = true := by
          rw [ByteArray.toList_eq, str_list]
          simp [q]
        cases z : is.contains (ts[j]'kl).name
        · rw [if_pos ⟨q, z⟩] at hst
          rw [z] at C
          have FA := fail_any HC a 31
          have HK' : Hid (orF (orF fk (some (a, 31))) (atmF a (fun x => is.contains x) (ts.drop (j + 1))) = R) := ⟨by rw [orF_assoc, orF_some]; exact hst⟩
          generalize str (ts[j]'kl).name = t at c0 q' q2 C
          clear hst hx HK HR HX q z H1 X1 F1 HI FW XW HC
          go_wp2_with (first
            | (go_at_call 19; refine C.mono ?_; rintro e w7 ⟨rfl, rfl⟩)
            | (go_at_call 17; refine FA.mono ?_; rintro e w8 ⟨rfl, F8, C8⟩))
          exact ⟨⟨j + 1, _, by go_num, by omega, C8, HK', HFW.out.trans F8, HXW.out.fr F8 (by omega)⟩, by simp [intOf]; omega⟩
        · rw [if_neg (fun y => by rw [z] at y; exact absurd y.2 (by simp))] at hst
          rw [z] at C
          have HK' : Hid (orF fk (atmF a (fun x => is.contains x) (ts.drop (j + 1))) = R) := ⟨hst⟩
          generalize str (ts[j]'kl).name = t at c0 q' q2 C
          clear hst hx HK HR HX q z H1 X1 F1 HI FW XW HC
          go_wp2_with (first
            | (go_at_call 19; refine C.mono ?_; rintro e w7 ⟨rfl, rfl⟩))
          exact ⟨⟨j + 1, fk, by go_num, by omega, HCK.out, HK', HFW.out, HXW.out⟩, by simp [intOf]; omega⟩
    · obtain rfl : j = l := by omega
      have HT : Hid (fk = R) := ⟨by have := HK.out; rwa [List.drop_eq_nil_of_le (by rw [HN.out]; omega), atmF, orF_nil] at this⟩
      have HC' : Hid (Ck wr b vd vb fk ∧ Fr b w wr) := ⟨HC, FW⟩
      clear HK HR HX HI HC FW XW H1 X1 F1
      go_wp2
      go_end0
      exact ⟨rfl, HC'.out.2, by rw [← HT.out]; exact HC'.out.1⟩
end Go.Proofs.YtcbdolflgpmaoaaDoor
