/- Which field a form picks out: the last variable of a name; forms in memory; a name alone. -/
import Derived.Test.YtmlegdnenklkhaaVae
namespace Go.Proofs.Ytmlegdnenklkhaa
open Go.RowKit
set_option linter.unusedVariables false
set_option linter.unusedSimpArgs false

def lastR (s : List UInt8) : List Nm → Int
  | [] => -1
  | x :: r => if x = s then r.length else lastR s r
/-- the place of the last one that is s -/
def lastI (s : List UInt8) (l : List Nm) : Int := lastR s l.reverse
theorem lastI_nil (s : List UInt8) : lastI s [] = -1 := rfl
theorem lastI_snoc (s : List UInt8) (l : List Nm) (x : Nm) : lastI s (l ++ [x]) = if x = s then (l.length : Int) else lastI s l := by
  unfold lastI
  rw [List.reverse_append, List.reverse_singleton, List.singleton_append, lastR, List.length_reverse]
theorem lastR_ge (s : List UInt8) : ∀ l : List Nm, -1 ≤ lastR s l ∧ lastR s l < l.length
  | [] => by simp [lastR]
  | x :: r => by
    have := lastR_ge s r
    rw [lastR]
    split
    · simp; omega
    · simp; omega
theorem lastI_ge (s : List UInt8) (l : List Nm) : -1 ≤ lastI s l ∧ lastI s l < l.length := by
  have := lastR_ge s l.reverse
  rwa [List.length_reverse] at this
/-- a row of names, of whatever length -/
def StrRow (w : World) (gv : Option Addr) (vs : List Nm) : Prop := vs.length ≤ 9223372036854775807 ∧ (0 < vs.length → ∃ B O, gv = some ⟨B, O, none⟩ ∧ ∀ j (h : j < vs.length), w.cell? ⟨B, O + j, none⟩ = some (.string (str (vs[j]'h))))
/-- an expression's cells: its kind, its name, how many atoms -/
def KidAt (w : World) (g : Option Addr) (kk : Int) (ks : ByteArray) (kl : Nat) : Prop := ∃ B O ka km h4 z4 h5 m5 z5 h6 m6 z6 h7 m7 z7, g = some ⟨B, O, none⟩ ∧
  ∀ j u, (exp8 kk ka km ks h4 h5 h6 h7 kl m5 m6 m7 z4 z5 z6 z7)[j]? = some u → w.cell? ⟨B, O + j, none⟩ = some u
/-- an alternative's cells: its kind, its name, its variables, its body's kind and name, how many atoms that has -/
def AltAt (w : World) (g : Option Addr) (ak : Int) (an : ByteArray) (vs : List Nm) (bk : Int) (bs : ByteArray) (bl : Nat) : Prop := ∃ B O aa am gv cv xa xm h4 z4 h5 m5 z5 h6 m6 z6 h7 m7 z7, g = some ⟨B, O, none⟩ ∧ StrRow w gv vs ∧ vs.length ≤ cv ∧
  ∀ j u, (alt13 ak aa an am gv vs.length cv bk xa xm bs h4 h5 h6 h7 bl m5 m6 m7 z4 z5 z6 z7)[j]? = some u → w.cell? ⟨B, O + j, none⟩ = some u
section
variable {w w' : World}
theorem StrRow.later {gv : Option Addr} {vs : List Nm} (h : StrRow w gv vs) (k : Below w.heap.size w w') : StrRow w' gv vs := by
  refine ⟨h.1, fun hn => ?_⟩
  obtain ⟨B, O, e, hx⟩ := h.2 hn
  exact ⟨B, O, e, fun j hj => (k.cell (World.block_lt_of_cell? _ _ (hx j hj))).trans (hx j hj)⟩
theorem KidAt.later {g : Option Addr} {kk : Int} {ks : ByteArray} {kl : Nat} (h : KidAt w g kk ks kl) (k : Below w.heap.size w w') : KidAt w' g kk ks kl := by
  obtain ⟨B, O, ka, km, h4, z4, h5, m5, z5, h6, m6, z6, h7, m7, z7, e, hx⟩ := h
  exact ⟨B, O, ka, km, h4, z4, h5, m5, z5, h6, m6, z6, h7, m7, z7, e, fun j u hj => (k.cell (World.block_lt_of_cell? _ _ (hx j u hj))).trans (hx j u hj)⟩
theorem AltAt.later {g : Option Addr} {ak : Int} {an : ByteArray} {vs : List Nm} {bk : Int} {bs : ByteArray} {bl : Nat} (h : AltAt w g ak an vs bk bs bl) (k : Below w.heap.size w w') : AltAt w' g ak an vs bk bs bl := by
  obtain ⟨B, O, aa, am, gv, cv, xa, xm, h4, z4, h5, m5, z5, h6, m6, z6, h7, m7, z7, e, r, c, hx⟩ := h
  exact ⟨B, O, aa, am, gv, cv, xa, xm, h4, z4, h5, m5, z5, h6, m6, z6, h7, m7, z7, e, r.later k, c, fun j u hj => (k.cell (World.block_lt_of_cell? _ _ (hx j u hj))).trans (hx j u hj)⟩
set_option maxHeartbeats 2000000 in
theorem alone_any (w : World) (k a xm : Int) (s : ByteArray) (g4 g5 g6 g7 : Option Addr) (n4 n5 n6 n7 c4 c5 c6 c7 : Nat) :
    Calls Try.prog 16 #[.agg (exp8 k a xm s g4 g5 g6 g7 n4 n5 n6 n7 c4 c5 c6 c7)] w fun e w' => e = .returned (.bool (k == 1 && decide (n4 = 0))) ∧ w' = w.alloc (.cells (exp8 k a xm s g4 g5 g6 g7 n4 n5 n6 n7 c4 c5 c6 c7) 28) := by
  cases q : (k == 1)
  · go_enter Try.func16, Try.ntmps16
    go_wp2
    go_ret
    exact ⟨rfl, rfl⟩
  · by_cases z : n4 = 0
    · have z' : ((n4 : Int) == 0) = true := by rw [z]; rfl
      rw [show decide (n4 = 0) = true by simp [z]]
      clear z
      go_enter Try.func16, Try.ntmps16
      go_wp2
      go_ret
      exact ⟨rfl, rfl⟩
    · have z' : ((n4 : Int) == 0) = false := by simp; exact z
      rw [show decide (n4 = 0) = false by simp [z]]
      clear z
      go_enter Try.func16, Try.ntmps16
      go_wp2
      go_ret
      exact ⟨rfl, rfl⟩
set_option maxHeartbeats 2000000 in
theorem same18_any (w : World) (ab : Nat) (t s : ByteArray) (h : w.cell? ⟨ab, 7, none⟩ = some (.string s)) :
    Calls Try.prog 18 #[.string t, ptr ab] w fun e w' => e = .returned (.bool (t.toList == s.toList)) ∧ w' = w := by
  go_enter Try.func18, Try.ntmps18
  go_wp2
  go_ret
  exact ⟨rfl, rfl⟩
set_option maxHeartbeats 4000000 in
theorem last_any (w : World) (gv : Option Addr) (vs : List Nm) (cv : Nat) (R : StrRow w gv vs) (hc : vs.length ≤ cv) (ab : Nat) (s : List UInt8) (h : w.cell? ⟨ab, 7, none⟩ = some (.string (str s))) :
    Calls Try.prog 17 #[.slice gv vs.length cv, .func (.func 18) #[] #[ptr ab]] w fun e w' => e = .returned (.int .i64 (lastI s vs)) ∧ w' = w := by
  obtain ⟨F, hF⟩ : ∃ F, lastI s vs = F := ⟨_, rfl⟩
  have HF : Hid (lastI s (vs.take vs.length) = F) := ⟨by rw [List.take_length]; exact hF⟩
  rw [hF]
  have HR := Hid.mk R
  obtain ⟨k, hk⟩ : ∃ k, vs.length = k := ⟨_, rfl⟩
  have HN := Hid.mk hk
  have hk47 : k ≤ 9223372036854775807 := by rw [← hk]; exact R.1
  rw [hk] at HF hc ⊢
  clear hF R hk
  go_enter Try.func17, Try.ntmps17
  go_wp2
  go_loopw [5] (fun c wr => ∃ i : Nat, c = .int .i64 ((i : Int) - 1) ∧ i ≤ k ∧ Hid (lastI s (vs.take i) = F) ∧ w = wr) (fun c _ => (intOf c + 1).toNat)
  case atStart => exact ⟨k, by go_num, Nat.le_refl _, HF, rfl⟩
  case round =>
    obtain ⟨i, rfl, hi, HI, rfl⟩ := hrel
    rcases i with _ | i
    · have HT : Hid (F = -1) := ⟨by have := HI.out; rw [List.take_zero, lastI_nil] at this; exact this.symm⟩
      clear HR HF HI
      go_wp2
      go_ret
      exact ⟨by rw [HT.out]; rfl, rfl⟩
    · have kl : i < vs.length := by rw [HN.out]; omega
      obtain ⟨B, O, rfl, hx⟩ := HR.out.2 (by omega)
      have c0 := hx i kl
      have hst := HI.out
      rw [← List.take_append_getElem kl, lastI_snoc, List.length_take, Nat.min_eq_left (by omega)] at hst
      have C := same18_any w ab (str (vs[i]'kl)) (str s) h
      rw [str_eqb] at C
      have e1 : ((i + 1 : Nat) : Int) - 1 = i := by omega
      rw [e1]
      have hlt' : (i : Int) < k := by omega
      have ki : ¬ ((i : Int) < 0) := by omega
      cases q : (vs[i]'kl == s)
      · rw [if_neg (by simpa using q)] at hst
        rw [q] at C
        have HK := Hid.mk hst
        clear hst hx HR HF HI q
        generalize str (vs[i]'kl) = t at *
        go_wp2_with (go_at_call 18; refine C.mono ?_; rintro e w9 ⟨rfl, rfl⟩)
        exact ⟨⟨i, by go_num, by omega, HK, trivial⟩, by simp [intOf]⟩
      · rw [if_pos (by simpa using q)] at hst
        rw [q] at C
        have HT := Hid.mk hst
        clear hst hx HR HF HI q
        generalize str (vs[i]'kl) = t at *
        go_wp2_with (go_at_call 18; refine C.mono ?_; rintro e w9 ⟨rfl, rfl⟩)
        go_ret
        exact ⟨by rw [← HT.out]; rfl, rfl⟩
end
end Go.Proofs.Ytmlegdnenklkhaa
