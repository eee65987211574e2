/- Package show's printer: names, calls; how much a tree weighs. -/
import Derived.Test.YtofgnpehlheeiaaGreatDoorNam
namespace Go.Proofs.YtofgnpehlheeiaaGreatDoor
open Go.RowKit
set_option linter.unusedVariables false
set_option linter.unusedSimpArgs false

/-! how much a tree weighs: at least as much as it has tokens, and as each name has letters; numbers of 64 bits -/
def wtN : List (List UInt8) → Nat
  | [] => 0
  | s :: r => 1 + s.length + wtN r
def wtT : List Atm → Nat
  | [] => 0
  | a :: r => 1 + a.name.length + wtT r
mutual
def wtE : E → Nat
  | .mk _ _ n _ ts bs ks az => 4 + n.length + wtT ts + wtBs bs + wtEs ks + wtAs az
def wtB : B → Nat
  | .mk n _ az x => 5 + n.length + wtN az + wtE x
def wtA : A → Nat
  | .mk _ _ n _ vs x => 4 + n.length + wtN vs + wtE x
def wtEs : List E → Nat
  | [] => 0
  | x :: r => wtE x + wtEs r
def wtBs : List B → Nat
  | [] => 0
  | x :: r => wtB x + wtBs r
def wtAs : List A → Nat
  | [] => 0
  | x :: r => wtA x + wtAs r
end
def wtD (d : D) : Nat := 4 + d.name.length
def wtDs : List D → Nat
  | [] => 0
  | d :: r => wtD d + wtDs r
def wtP (p : Pg) : Nat := wtDs p.datas + wtBs p.binds
mutual
def finE : E → Prop
  | .mk _ _ _ m ts bs ks az => In64 m ∧ (∀ a ∈ ts, In64 a.num) ∧ finBs bs ∧ finEs ks ∧ finAs az
def finB : B → Prop
  | .mk _ _ _ x => finE x
def finA : A → Prop
  | .mk _ _ _ m _ x => In64 m ∧ finE x
def finEs : List E → Prop
  | [] => True
  | x :: r => finE x ∧ finEs r
def finBs : List B → Prop
  | [] => True
  | x :: r => finB x ∧ finBs r
def finAs : List A → Prop
  | [] => True
  | x :: r => finA x ∧ finAs r
end
def finP (p : Pg) : Prop := (∀ d ∈ p.datas, In64 d.arity) ∧ finBs p.binds
theorem wtN_len : ∀ l, l.length ≤ wtN l
  | [] => Nat.le_refl _
  | s :: r => by have := wtN_len r; simp only [wtN, List.length_cons]; omega
theorem wtN_get : ∀ (l : List (List UInt8)) (i : Nat) (h : i < l.length), (l[i]'h).length ≤ wtN l
  | [], i, h => absurd h (Nat.not_lt_zero _)
  | s :: r, 0, h => by simp only [wtN, List.getElem_cons_zero]; omega
  | s :: r, i + 1, h => by have := wtN_get r i (by simpa using h); simp only [wtN, List.getElem_cons_succ]; omega
theorem wtT_len : ∀ l, l.length ≤ wtT l
  | [] => Nat.le_refl _
  | s :: r => by have := wtT_len r; simp only [wtT, List.length_cons]; omega
theorem wtT_get : ∀ (l : List Atm) (i : Nat) (h : i < l.length), (l[i]'h).name.length ≤ wtT l
  | [], i, h => absurd h (Nat.not_lt_zero _)
  | s :: r, 0, h => by simp only [wtT, List.getElem_cons_zero]; omega
  | s :: r, i + 1, h => by have := wtT_get r i (by simpa using h); simp only [wtT, List.getElem_cons_succ]; omega
theorem wtBs_take : ∀ (l : List B) (i : Nat) (h : i < l.length), wtBs (l.take (i + 1)) = wtBs (l.take i) + wtB (l[i]'h)
  | [], i, h => absurd h (Nat.not_lt_zero _)
  | s :: r, 0, h => by simp [wtBs]
  | s :: r, i + 1, h => by have := wtBs_take r i (by simpa using h); simp only [List.take_succ_cons, wtBs, List.getElem_cons_succ, this]; omega
theorem wtBs_le : ∀ (l : List B) (i : Nat), wtBs (l.take i) ≤ wtBs l
  | [], i => by simp [wtBs]
  | s :: r, 0 => by simp [wtBs]
  | s :: r, i + 1 => by have := wtBs_le r i; simp only [List.take_succ_cons, wtBs]; omega
theorem wtAs_take : ∀ (l : List A) (i : Nat) (h : i < l.length), wtAs (l.take (i + 1)) = wtAs (l.take i) + wtA (l[i]'h)
  | [], i, h => absurd h (Nat.not_lt_zero _)
  | s :: r, 0, h => by simp [wtAs]
  | s :: r, i + 1, h => by have := wtAs_take r i (by simpa using h); simp only [List.take_succ_cons, wtAs, List.getElem_cons_succ, this]; omega
theorem wtAs_le : ∀ (l : List A) (i : Nat), wtAs (l.take i) ≤ wtAs l
  | [], i => by simp [wtAs]
  | s :: r, 0 => by simp [wtAs]
  | s :: r, i + 1 => by have := wtAs_le r i; simp only [List.take_succ_cons, wtAs]; omega
theorem wtDs_take : ∀ (l : List D) (i : Nat) (h : i < l.length), wtDs (l.take (i + 1)) = wtDs (l.take i) + wtD (l[i]'h)
  | [], i, h => absurd h (Nat.not_lt_zero _)
  | s :: r, 0, h => by simp [wtDs]
  | s :: r, i + 1, h => by have := wtDs_take r i (by simpa using h); simp only [List.take_succ_cons, wtDs, List.getElem_cons_succ, this]; omega
theorem wtDs_le : ∀ (l : List D) (i : Nat), wtDs (l.take i) ≤ wtDs l
  | [], i => by simp [wtDs]
  | s :: r, 0 => by simp [wtDs]
  | s :: r, i + 1 => by have := wtDs_le r i; simp only [List.take_succ_cons, wtDs]; omega
theorem finBs_get : ∀ (l : List B), finBs l → ∀ (i : Nat) (h : i < l.length), finB (l[i]'h)
  | [], _, i, h => absurd h (Nat.not_lt_zero _)
  | s :: r, f, 0, h => by simp only [finBs] at f; exact f.1
  | s :: r, f, i + 1, h => by simp only [finBs] at f; exact finBs_get r f.2 i (by simpa using h)
theorem finAs_get : ∀ (l : List A), finAs l → ∀ (i : Nat) (h : i < l.length), finA (l[i]'h)
  | [], _, i, h => absurd h (Nat.not_lt_zero _)
  | s :: r, f, 0, h => by simp only [finAs] at f; exact f.1
  | s :: r, f, i + 1, h => by simp only [finAs] at f; exact finAs_get r f.2 i (by simpa using h)

theorem isE_eight {w : World} {ok : Nat → Prop} {x : E} {c : List Value} (h : isE w ok x c) : ∃ (k a m : Int) (s : ByteArray) (g4 g5 g6 g7 : Option Addr) (n4 n5 n6 n7 c4 c5 c6 c7 : Nat),
    c = [.int .i64 k, .int .i64 a, .string s, .int .i64 m, .slice g4 n4 c4, .slice g5 n5 c5, .slice g6 n6 c6, .slice g7 n7 c7] := by
  obtain ⟨k, a, n, m, ts, bs, ks, al⟩ := x
  simp only [isE] at h
  obtain ⟨vt, vb, vk, va, xb, xk, xa, rfl, ⟨_, _, rfl, _⟩, ⟨_, _, rfl, _⟩, _, ⟨_, _, rfl, _⟩, _, ⟨_, _, rfl, _⟩, _⟩ := h
  exact ⟨_, _, _, _, _, _, _, _, _, _, _, _, _, _, _, _, rfl⟩

section
variable {w : World} {b : Nat} {ts : List ATok} {es : List Nat} {e : Int}
set_option maxRecDepth 100000 in
set_option maxHeartbeats 2000000 in
theorem names_any (P : Pr w b ts es e) (ns : List (List UInt8)) (v : Value) (I : IsRow w (fun g => g < b) (strC ns) ns.length v) (hn : ts.length + wtN ns ≤ 2000000) : Calls Tryz.prog 37 #[ptr b, v] w (Did b w ts es e ns.length (oNames ns)) := by
  obtain ⟨ga, cap, rfl, ⟨hc1, hc2⟩, hrow⟩ := I
  have hw := wtN_len ns
  rw [oNames_L]
  go_enter Tryz.func37, Tryz.ntmps37
  go_wp2
  go_loopw [8] (fun c wr => ∃ i : Nat, c = .int .i64 i ∧ i ≤ ns.length ∧ Fp b w wr ∧ ∃ ts1 e1, Pr wr b ts1 es e1 ∧ Hid (Aft ts e (oL (oName 1) (ns.take i)) ts1 e1) ∧ ts1.length ≤ ts.length + i) (fun c _ => ns.length - (intOf c).toNat)
  case atStart => exact ⟨0, rfl, Nat.zero_le _, Fp.refl _ _, ts, e, P, ⟨Aft.nil _ _⟩, by simp⟩
  case round =>
    obtain ⟨i, rfl, hi, F, ts1, e1, P1, HA, hl⟩ := hrel
    by_cases hlt : i < ns.length
    · obtain ⟨g, off, rfl, hg, hx⟩ := hrow (by omega)
      have cx : wr.cell? ⟨g, off + i, none⟩ = some (.string (str (ns[i]'hlt))) := F.keeps.cell g _ _ hg (hx i _ (by simp [strC, hlt]))
      have hwl := wtN_get ns i hlt
      have Q := name_any P1 1 ⟨by decide, by decide⟩ (ns[i]'hlt) (by omega) (by omega)
      have HT : Hid (oL (oName 1) (ns.take (i + 1)) = seqO (oL (oName 1) (ns.take i)) (oName 1 (ns[i]'hlt))) := ⟨oL_take _ _ _ hlt⟩
      have hlt' : (i : Int) < ns.length := by omega
      generalize ns[i]'hlt = s at *
      clear hrow hx
      go_wp2_with (go_at_call 34; refine Q.mono ?_; rintro r w2 ⟨rfl, F2, ts2, e2, P2, A2, l2⟩)
      go_roundw
      case rel => exact ⟨i + 1, by go_num, by omega, F.trans F2, ts2, e2, P2, ⟨by rw [HT.out]; exact HA.out.seq A2⟩, by omega⟩
      case measure => simp [intOf]; omega
    · have e1 : ns.take i = ns := List.take_of_length_le (by omega)
      rw [e1] at HA
      have hlt' : ¬ (i : Int) < ns.length := by omega
      go_wp2
      go_end0
      exact ⟨rfl, F, ts1, _, P1, HA.out, by omega⟩

theorem atm_at {w : World} {ts : List Atm} {g off : Nat} (hx : ∀ j u, (atmC ts)[j]? = some u → w.cell? ⟨g, off + j, none⟩ = some u) (i : Nat) (h : i < ts.length) :
    w.cell? ⟨g, off + i * 2, none⟩ = some (.string (str (ts[i]'h).name)) ∧ w.cell? ⟨g, off + i * 2 + 1, none⟩ = some (.int .i64 (ts[i]'h).num) := by
  have G : ∀ (l : List Atm) (i : Nat) (h : i < l.length), (atmC l)[i * 2]? = some (.string (str (l[i]'h).name)) ∧ (atmC l)[i * 2 + 1]? = some (.int .i64 (l[i]'h).num) := by
    intro l
    induction l with
    | nil => intro i h; exact absurd h (Nat.not_lt_zero _)
    | cons a r ih =>
      intro i h
      have e : atmC (a :: r) = .string (str a.name) :: .int .i64 a.num :: atmC r := by simp [atmC]
      cases i with
      | zero => rw [e]; exact ⟨rfl, rfl⟩
      | succ i =>
        have := ih i (by simpa using h)
        rw [e, show (i + 1) * 2 = i * 2 + 1 + 1 by omega]
        simp only [List.getElem?_cons_succ, List.getElem_cons_succ]
        exact this
  obtain ⟨a, b⟩ := G ts i h
  exact ⟨hx _ _ a, by rw [Nat.add_assoc]; exact hx _ _ b⟩
theorem empty_str {s : List UInt8} : ((str s).toList == []) = decide (s = []) := by
  rw [ByteArray.toList_eq, str_list]
  by_cases h : s = [] <;> simp [h]

set_option maxRecDepth 100000 in
set_option maxHeartbeats 4000000 in
theorem pcall_any (P : Pr w b ts es e) (k : Int) (hk : In64 k) (x : E) (c : List Value) (I : isE w (fun g => g < b) x c) (hf : finE x) (hn : ts.length + wtE x ≤ 2000000) :
    Calls Tryz.prog 60 #[ptr b, .int .i64 k, .agg c.toArray] w (Did b w ts es e (wtE x) (match x with | .mk _ _ n _ az _ _ _ => seqO (oName k n) (oAtoms az))) := by
  obtain ⟨x0, x1, n, m, az, bs, ks, al⟩ := x
  simp only [isE] at I
  obtain ⟨vt, vb, vk, va, xb, xk, xa, rfl, IT, ⟨g5, c5, rfl, _⟩, _, ⟨g6, c6, rfl, _⟩, _, ⟨g7, c7, rfl, _⟩, _⟩ := I
  obtain ⟨ga, cap, rfl, ⟨hc1, hc2⟩, hrow⟩ := IT
  simp only [finE] at hf
  simp only [wtE] at hn ⊢
  have hfa := hf.2.1
  have hw := wtT_len az
  have lt := P.lt
  have BX := Blk.fresh w #[.int .i64 x0, .int .i64 x1, .string (str n), .int .i64 m, .slice ga az.length cap, .slice g5 bs.length c5, .slice g6 ks.length c6, .slice g7 al.length c7] 47
  have Q1 := name_any (P.alloc (.cells #[.int .i64 x0, .int .i64 x1, .string (str n), .int .i64 m, .slice ga az.length cap, .slice g5 bs.length c5, .slice g6 ks.length c6, .slice g7 al.length c7] 47)) k hk n (by omega) (by omega)
  have F0 := (Fp.refl b w).alloc (.cells #[.int .i64 x0, .int .i64 x1, .string (str n), .int .i64 m, .slice ga az.length cap, .slice g5 bs.length c5, .slice g6 ks.length c6, .slice g7 al.length c7] 47)
  clear P
  rw [oAtoms_L]
  go_enter Tryz.func60, Tryz.ntmps60
  go_wp2_with (go_at_call 34; refine Q1.mono ?_; rintro r w1 ⟨rfl, F1, ts1, e1, P1, A1, l1⟩; have X1 := F1.oth _ _ _ BX (by omega) (by decide) (by decide); have y4 : w1.cell? ⟨w.heap.size, 4, none⟩ = some (.slice ga az.length cap) := X1.cell 4)
  have F01 := F0.trans F1
  have HA1 : Hid (Aft ts e (oName k n) ts1 e1) := ⟨A1⟩
  clear X1 BX Q1 F0 F1 y4 A1
  go_loopw [16] (fun c wr => ∃ i : Nat, c = .int .i64 i ∧ i ≤ az.length ∧ Fp b w wr ∧ ∃ ts2 e2, Pr wr b ts2 es e2 ∧ Hid (Aft ts e (seqO (oName k n) (oL oAtom (az.take i))) ts2 e2) ∧ ts2.length ≤ ts.length + 1 + i) (fun c _ => az.length - (intOf c).toNat)
  case atStart => exact ⟨0, rfl, Nat.zero_le _, F01, ts1, e1, P1, ⟨by have := HA1.out.seq (Aft.nil _ _); exact this⟩, by omega⟩
  case round =>
    clear P1 HA1 F01 l1
    obtain ⟨i, rfl, hi, F, ts2, e2, P2, HA, hl⟩ := hrel
    by_cases hlt : i < az.length
    · obtain ⟨g, off, rfl, hg, hx⟩ := hrow (by omega)
      obtain ⟨q0, q1⟩ := atm_at hx i hlt
      have cx0 := F.keeps.cell g _ _ hg q0
      have cx1 := F.keeps.cell g _ _ hg q1
      have hwl := wtT_get az i hlt
      have hfi := hfa _ (List.getElem_mem hlt)
      have HT : Hid (oL oAtom (az.take (i + 1)) = seqO (oL oAtom (az.take i)) (oAtom (az[i]'hlt))) := ⟨oL_take _ _ _ hlt⟩
      have hlt' : (i : Int) < az.length := by omega
      have lt2 := P2.lt
      obtain ⟨s, hs⟩ : ∃ s, (az[i]'hlt).name = s := ⟨_, rfl⟩
      obtain ⟨u, hu⟩ : ∃ u, (az[i]'hlt).num = u := ⟨_, rfl⟩
      rw [hs] at cx0 hwl
      rw [hu] at cx1 hfi
      have HO : Hid (oAtom (az[i]'hlt) = if s = [] then .ok [nuT u] else oName 1 s) := ⟨by unfold oAtom; rw [hs, hu]⟩
      generalize az[i]'hlt = a at *
      clear hrow hx q0 q1 hs hu
      have BY := Blk.fresh wr #[.string (str s), .int .i64 u] 105
      have P3 := P2.alloc (.cells #[.string (str s), .int .i64 u] 105)
      have F3 := F.alloc (.cells #[.string (str s), .int .i64 u] 105)
      by_cases he : s = []
      · have d : (str s).toList = [] := by rw [ByteArray.toList_eq, str_list, he]
        have HE : Hid (s = []) := ⟨he⟩
        clear he
        have Q := pnumber_any P3.drew u hfi (by omega)
        have y1 : (wr.alloc (.cells #[.string (str s), .int .i64 u] 105)).cell? ⟨wr.heap.size, 1, none⟩ = some (.int .i64 u) := BY.cell 1
        go_wp2
        go_region_held3 (fun w' => w'.cell? ⟨wr.heap.size, 1, none⟩ = some (.int .i64 u)) (go_keep) (first
          | (go_at_call 35; refine Q.mono ?_; rintro r w4 ⟨rfl, F4, ts4, e4, P4, A4, l4⟩; have y4 : w4.cell? ⟨wr.heap.size, 1, none⟩ = some (.int .i64 u) := (F4.oth _ _ _ BY.drew (by omega) (by decide) (by decide)).cell 1))
        all_goals go_wp2
        all_goals go_roundw
        case rel => exact ⟨i + 1, by go_num, by omega, F3.drew.trans F4, ts4, e4, P4, ⟨by rw [HT.out, ← seqO_assoc, HO.out, if_pos HE.out]; exact HA.out.seq A4⟩, by omega⟩
        case measure => simp [intOf]; omega
      · have d : ((str s).toList == []) = false := by rw [empty_str]; simp [he]
        have Q := name_any P3 1 ⟨by decide, by decide⟩ s (by omega) (by omega)
        go_wp2_with (go_at_call 34; refine Q.mono ?_; rintro r w4 ⟨rfl, F4, ts4, e4, P4, A4, l4⟩)
        go_roundw
        case rel => exact ⟨i + 1, by go_num, by omega, F3.trans F4, ts4, e4, P4, ⟨by rw [HT.out, ← seqO_assoc, HO.out, if_neg he]; exact HA.out.seq A4⟩, by omega⟩
        case measure => simp [intOf]; omega
    · have e1 : az.take i = az := List.take_of_length_le (by omega)
      rw [e1] at HA
      have hlt' : ¬ (i : Int) < az.length := by omega
      go_wp2
      go_end0
      exact ⟨rfl, F, ts2, _, P2, HA.out, by omega⟩
end

end Go.Proofs.YtofgnpehlheeiaaGreatDoor
