/- Package show's Print. -/
import Derived.Test.YtofgnpehlheeiaaGreatDoorLin
import Derived.BigQuiet
import Derived.Deep.QuietTactic
namespace Go.Proofs.YtofgnpehlheeiaaGreatDoor
open Go.RowKit
set_option linter.unusedVariables false
set_option linter.unusedSimpArgs false

theorem own_cap {W : World} {base size m cap : Nat} {e : TypeId} {ga : Option Addr} {xs : List Value} (h : W.ownsRow base e size (.slice ga m cap) m xs) : m ≤ cap ∧ cap ≤ 9223372036854775807 := by
  rcases h.2 with ⟨h1, h0⟩ | ⟨g, c, cur, h1, _, _, hc, hm, _⟩
  · cases h1; exact ⟨Nat.le_refl _, by omega⟩
  · cases h1
    have := hm
    unfold maxLen at this
    exact ⟨hc, by omega⟩
theorem printer_new (w : World) (La : Laid w) (o : Obj) : Pr ((w.alloc o).alloc (.cells #[.slice none 0 0, .slice none 0 0, .int .i64 0] 39)) (w.heap.size + 1) [] [] 0 := by
  have X := Blk.fresh (w.alloc o) #[.slice none 0 0, .slice none 0 0, .int .i64 0] 39
  rw [show (w.alloc o).heap.size = w.heap.size + 1 by simp] at X
  exact ⟨⟨_, X.cell 0, World.ownsRow_nil _ _ _ _⟩, ⟨_, X.cell 1, World.ownsRow_nil _ _ _ _⟩, X.cell 2, X.z, fun t ht => (by cases ht), ⟨w, La, by omega, bal (bal (Below.refl _ w) _) _⟩⟩
theorem toks_of {w : World} {b : Nat} {ts : List ATok} {es : List Nat} {e : Int} (P : Pr w b ts es e) : ∃ ga cap, w.cell? ⟨b, 0, none⟩ = some (.slice ga ts.length cap) ∧ IsToks w ga ts ∧ ts.length ≤ cap ∧ cap ≤ 9223372036854775807 := by
  obtain ⟨v, c0, O⟩ := P.c0
  obtain ⟨ga, cap, rfl⟩ := own_form O
  refine ⟨ga, cap, c0, ⟨fun hn => ?_, P.fit⟩, own_cap O⟩
  rcases O.2 with ⟨h1, h0⟩ | ⟨g, c, cur, h1, _⟩
  · omega
  · cases h1
    refine ⟨g, 0, rfl, lies_of (fun j u hj => ?_)⟩
    have := O.cells (g := g) rfl j u hj
    simp only [Addr.add, Nat.zero_add] at this ⊢
    split at this
    · rename_i z; subst z; exact this
    · exact this
theorem ends_of {w : World} {b : Nat} {ts : List ATok} {es : List Nat} {e : Int} (P : Pr w b ts es e) : ∃ gc cap, w.cell? ⟨b, 1, none⟩ = some (.slice gc es.length cap) ∧ (0 < es.length → ∃ g off, gc = some ⟨g, off, none⟩ ∧ ∀ j u, (endC es)[j]? = some u → w.cell? ⟨g, off + j, none⟩ = some u) := by
  obtain ⟨v, c0, O⟩ := P.c1
  obtain ⟨ga, cap, rfl⟩ := own_form O
  refine ⟨ga, cap, c0, fun hn => ?_⟩
  rcases O.2 with ⟨h1, h0⟩ | ⟨g, c, cur, h1, _⟩
  · omega
  · cases h1
    refine ⟨g, 0, rfl, fun j u hj => ?_⟩
    have := O.cells (g := g) rfl j u hj
    simp only [Addr.add, Nat.zero_add] at this ⊢
    split at this
    · rename_i z; subst z; exact this
    · exact this
theorem isPV_keeps {w w' : World} {ok ok' : Nat → Prop} (hk : Keeps ok ok' w w') {p : Pg} {v : Value} (h : isPV w ok p v) : isPV w' ok' p v := by
  obtain ⟨vd, vb, xb, rfl, a, b, c⟩ := h
  exact ⟨vd, vb, xb, rfl, a.keeps hk, b.keeps hk, isBs_keeps hk _ _ c⟩
theorem below_far {b : Nat} {w w1 w2 : World} (h : Below w.heap.size w w1) (F : Fp b w1 w2) (hb : w.heap.size ≤ b) (hl : b ≤ w1.heap.size) : Below w.heap.size w w2 := h.trans (Joins.below_le (F.low' hl) hb)
def ErrO (o : OT) : Prop := ∀ c, o = .error c → c ≠ 0
theorem ErrO.seq {a b : OT} (ha : ErrO a) (hb : ErrO b) : ErrO (seqO a b) := fun c h => by
  rcases a with e | x
  · cases h; exact ha _ rfl
  · rcases b with e | y
    · cases h; exact hb _ rfl
    · cases h
theorem ErrO.ok (l : List ATok) : ErrO (.ok l) := fun c h => by cases h
theorem ErrO.err {c : Int} (h : c ≠ 0) : ErrO (.error c) := fun d e => by cases e; exact h
theorem err_name (k : Int) (s : List UInt8) : ErrO (oName k s) := by unfold oName; split; exact .ok _; exact .err (by decide)
theorem err_L {α : Type} {f : α → OT} (h : ∀ x, ErrO (f x)) : ∀ l, ErrO (oL f l)
  | [] => .ok _
  | x :: r => (h x).seq (err_L h r)
theorem err_B {ex : E → OT} (h : ∀ x, ErrO (ex x)) : ∀ x, ErrO (oB ex x)
  | .mk n a al x => by
    unfold oB
    refine (err_name 1 n).seq ((ErrO.ok _).seq (ErrO.seq ?_ ((h x).seq (.ok _))))
    unfold oArgs
    split
    · exact .ok _
    · exact (ErrO.ok _).seq (ErrO.seq (by rw [oNames_L]; exact err_L (err_name 1) al) (.ok _))
theorem err_A {ex : E → OT} (h : ∀ x, ErrO (ex x)) : ∀ x, ErrO (oA ex x)
  | .mk k a n m vs x => by
    unfold oA
    refine ErrO.seq ?_ ((ErrO.ok _).seq ((h x).seq (.ok _)))
    unfold oHead
    split
    · exact (err_name 2 n).seq (by rw [oNames_L]; exact err_L (err_name 1) vs)
    · split
      · exact .ok _
      · split
        · exact err_name 1 n
        · exact .err (by decide)
theorem err_E : ∀ d x, ErrO (oE d x)
  | 0, x => .err (by decide)
  | d + 1, .mk k a n m az bs ks al => by
    have ih := err_E d
    have hK : ErrO (oK (oE d) ks) := by
      cases ks with
      | nil => exact .err (by decide)
      | cons x r => exact ih x
    unfold oE
    split
    · refine (err_name k n).seq (by rw [oAtoms_L]; exact err_L (fun a => by unfold oAtom; split; exact .ok _; exact err_name 1 _) az)
    · split
      · exact .ok _
      · split
        · split
          · exact .err (by decide)
          · exact (ErrO.ok _).seq ((err_L (err_B ih) bs).seq ((ErrO.ok _).seq hK))
        · split
          · split
            · exact .err (by decide)
            · exact (ErrO.ok _).seq (hK.seq ((ErrO.ok _).seq ((err_L (err_A ih) al).seq (.ok _))))
          · exact .err (by decide)
theorem err_Ls {α : Type} {f : α → OT} (hf : ∀ x, ErrO (f x)) : ∀ (l : List α) c, oLs f l = .error c → c ≠ 0
  | [], c, h => by cases h
  | a :: r, c, h => by
    unfold oLs at h
    split at h
    · split at h
      · cases h
      · rename_i e he
        cases h
        exact err_Ls hf r _ he
    · rename_i e he
      cases h
      exact hf _ _ he
theorem lines_err {p : Pg} {c : Int} (h : linesO p = .error c) : c ≠ 0 := by
  rw [linesO_seq] at h
  unfold seqL at h
  split at h
  · split at h
    · cases h
    · rename_i e he
      cases h
      exact err_Ls (err_B (err_E 60)) _ _ he
  · rename_i e he
    cases h
    exact err_Ls (fun d => by unfold oData; exact (ErrO.ok _).seq ((err_name 2 _).seq (.ok _))) _ _ he
theorem lines_len {p : Pg} {L : List (List ATok)} (h : linesO p = .ok L) (hf : finP p) : L.length ≤ wtP p := by
  have := (lines_all hf h).2
  have a := wtDs_len p.datas
  have b := wtBs_len p.binds
  unfold wtP
  omega

set_option maxRecDepth 100000 in
set_option maxHeartbeats 4000000 in
theorem print_err (w : World) (gd gb : Option Addr) (nd nb cd cb : Nat) (c : Int)
    (Q : Calls Tryz.prog 9 #[ptr (w.heap.size + 1), .agg #[.slice gd nd cd, .slice gb nb cb]] ((w.alloc (.cells #[.slice gd nd cd, .slice gb nb cb] 25)).alloc (.cells #[.slice none 0 0, .slice none 0 0, .int .i64 0] 39)) fun r w' => r = done ∧ Fp (w.heap.size + 1) ((w.alloc (.cells #[.slice gd nd cd, .slice gb nb cb] 25)).alloc (.cells #[.slice none 0 0, .slice none 0 0, .int .i64 0] 39)) w' ∧ ∃ ts es, Pr w' (w.heap.size + 1) ts es c) (hc : c ≠ 0) :
    Calls Tryz.prog 5 #[.agg #[.slice gd nd cd, .slice gb nb cb]] w fun r w' => r = .returned (.tuple #[.string ⟨#[]⟩, .int .i64 c]) ∧ Below w.heap.size w w' := by
  have ne' : (c != 0) = true := by simp [hc]
  go_enter Tryz.func5, Tryz.ntmps5
  go_wp2_with (go_at_call 9; refine Q.mono ?_; rintro r w3 ⟨rfl, F3, ts, es, P3⟩; have c2 := P3.c2; have lt3 := P3.lt; have BF := below_far (bal (bal (Below.refl _ w) _) _) F3 (by omega) (by simp))
  go_region_held3 (fun w' => w'.cell? ⟨w.heap.size + 1, 2, none⟩ = some (.int .i64 c)) (go_keep) (fail)
  all_goals go_wp2
  all_goals go_ret2
  all_goals exact ⟨rfl, BF.drew⟩
set_option maxRecDepth 100000 in
set_option maxHeartbeats 4000000 in
theorem print_good (w : World) (gd gb : Option Addr) (nd nb cd cb : Nat) (n ne : Nat) (R : Except Int (List UInt8))
    (Q : Calls Tryz.prog 9 #[ptr (w.heap.size + 1), .agg #[.slice gd nd cd, .slice gb nb cb]] ((w.alloc (.cells #[.slice gd nd cd, .slice gb nb cb] 25)).alloc (.cells #[.slice none 0 0, .slice none 0 0, .int .i64 0] 39)) fun r w' => r = done ∧ Fp (w.heap.size + 1) ((w.alloc (.cells #[.slice gd nd cd, .slice gb nb cb] 25)).alloc (.cells #[.slice none 0 0, .slice none 0 0, .int .i64 0] 39)) w' ∧ ∃ ga gc cap1 cap2, w'.cell? ⟨w.heap.size + 1, 0, none⟩ = some (.slice ga n cap1) ∧ w'.cell? ⟨w.heap.size + 1, 1, none⟩ = some (.slice gc ne cap2) ∧ w'.cell? ⟨w.heap.size + 1, 2, none⟩ = some (.int .i64 0) ∧
      Calls Tryz.prog 10 #[.slice ga n cap1, .slice gc ne cap2] w' fun r w'' => r = .returned (.tuple #[.string (str (textS R)), .int .i64 (textE R)]) ∧ Below w'.heap.size w' w'') :
    Calls Tryz.prog 5 #[.agg #[.slice gd nd cd, .slice gb nb cb]] w fun r w' => r = .returned (.tuple #[.string (str (textS R)), .int .i64 (textE R)]) ∧ Below w.heap.size w w' := by
  generalize str (textS R) = S at *
  generalize textE R = T at *
  go_enter Tryz.func5, Tryz.ntmps5
  go_wp2_with (first
    | (go_at_call 9; refine Q.mono ?_; rintro r w3 ⟨rfl, F3, ga, gc, cap1, cap2, c0, c1, c2, Q2⟩; have lt3 : w.heap.size + 1 < w3.heap.size := World.block_lt_of_cell? _ _ c2; have BF := below_far (bal (bal (Below.refl _ w) _) _) F3 (by omega) (by simp); clear Q)
    | (go_at_call 10; refine Q2.mono ?_; rintro r w4 ⟨rfl, B4⟩))
  go_ret2
  exact ⟨rfl, BF.trans (Joins.below_le B4 BF.size)⟩
theorem print_any (w : World) (La : Laid w) (p : Pg) (v : Value) (I : isPV w (fun g => g < w.heap.size) p v) (hf : finP p) (hn : wtP p ≤ 1900000) :
    Calls Tryz.prog 5 #[v] w fun r w' => r = .returned (.tuple #[.string (str (textS (printR p))), .int .i64 (textE (printR p))]) ∧ Below w.heap.size w w' := by
  have I0 := I
  obtain ⟨vd, vb, xb, rfl, ID, IB, IBS⟩ := I
  obtain ⟨gd, cd, rfl⟩ := row_len ID
  obtain ⟨gb, cb, rfl⟩ := row_len IB
  have hB : Below w.heap.size w ((w.alloc (.cells #[.slice gd p.datas.length cd, .slice gb p.binds.length cb] 25)).alloc (.cells #[.slice none 0 0, .slice none 0 0, .int .i64 0] 39)) := bal (bal (Below.refl _ w) _) _
  have P0 := printer_new w La (.cells #[.slice gd p.datas.length cd, .slice gb p.binds.length cb] 25)
  have Q := program_any P0 p _ (isPV_keeps (keeps_below (ok' := fun g => g < w.heap.size + 1) hB (fun g hg => Nat.lt_succ_of_lt hg)) I0) hf hn
  cases hl : linesO p with
  | error c =>
    have hR : printR p = .error c := by unfold printR; rw [hl]
    rw [hl] at Q
    rw [hR]
    have hc := lines_err hl
    exact print_err w gd gb _ _ cd cb c (Q.mono (fun r w' ⟨h1, h2, ts, es, e, h3, h4, _⟩ => ⟨h1, h2, ts, es, by obtain ⟨rfl, _⟩ := h4; exact h3⟩)) hc
  | ok L =>
    have hR : printR p = if 16384 < (textL L).length then .error 3 else .ok (textL L) := by unfold printR; rw [hl]
    have hf1 := lines_len hl hf
    have hfL := (lines_all hf hl).1
    rw [hl] at Q
    refine print_good w gd gb _ _ cd cb L.flatten.length L.length (printR p) (Q.mono ?_)
    rintro r w3 ⟨h1, F3, ts, es, e, P3, A3, l3⟩
    obtain ⟨rfl, rfl, rfl⟩ := A3
    obtain ⟨ga, cap1, c0, IT, k1, k2⟩ := toks_of P3
    obtain ⟨gc, cap2, c1, IE⟩ := ends_of P3
    rw [endsOf_len] at c1 IE
    exact ⟨h1, F3, ga, gc, cap1, cap2, c0, c1, P3.c2, lines_any w3 P3.L L hfL ga gc L.flatten.length L.length cap1 cap2 rfl rfl IT k1 (by omega) k2 IE (by omega) (printR p) hR⟩

end Go.Proofs.YtofgnpehlheeiaaGreatDoor
