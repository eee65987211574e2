/- The document's own stack in memory: how many words it uses. -/
import Derived.Test.YtglimbpnekephaaDoorMpi
import Derived.Test.YtglimbpnekephaaDoorFrp
namespace Go.Proofs.YtglimbpnekephaaDoor
open Go.RowKit
set_option linter.unusedVariables false
set_option linter.unusedSimpArgs false

/-- words that frames take, the lowest first -/
def usedN (l : List Fp) : Nat := (l.map fun x => x.f.ps.length + 1).sum
theorem usedN_snoc (l : List Fp) (x : Fp) : usedN (l ++ [x]) = usedN l + (x.f.ps.length + 1) := by simp [usedN]
theorem usedN_app (a b : List Fp) : usedN (a ++ b) = usedN a + usedN b := by simp [usedN]
theorem wd_app_len : ∀ q s : List Fr, (wd (q ++ s)).length = (wd q).length + (wd s).length
  | [], s => by simp [wd]
  | f :: q, s => by
    have := wd_app_len q s
    rw [List.cons_append, wd_cons_len, wd_cons_len]
    omega
theorem usedN_wd : ∀ l : List Fp, usedN l = (wd (l.map Fp.f).reverse).length
  | [] => rfl
  | x :: r => by
    have ih := usedN_wd r
    have e : usedN (x :: r) = (x.f.ps.length + 1) + usedN r := by simp [usedN]
    rw [e, List.map_cons, List.reverse_cons, wd_app_len, ← ih, wd_cons_len]
    simp [wd]
    omega
theorem usedN_take (l : List Fp) (i : Nat) (h : i < l.length) : usedN (l.take (i + 1)) = usedN (l.take i) + ((l[i]'h).f.ps.length + 1) := by
  rw [List.take_succ_eq_append_getElem h, usedN_snoc]
theorem usedN_le (l : List Fp) (i : Nat) : usedN (l.take i) ≤ usedN l := by
  have h := usedN_app (l.take i) (l.drop i)
  rw [List.take_append_drop] at h
  omega
set_option maxHeartbeats 2000000 in
theorem used34_any {w : World} {d base : Nat} {v : Value} {l : List Fp} {n : Int} (B : Bx w d #[.int .i64 n, v] 31) (R : Rw w base v l) (hu : usedN l ≤ 65536) (hl : l.length ≤ 65536) :
    Calls Tryd.prog 34 #[.pointer (some ⟨d, 0, none⟩)] w fun e w' => e = .returned (.int .i64 (usedN l)) ∧ w' = w := by
  have HR := Hid.mk R
  obtain ⟨ga, cp, rfl, hcp⟩ := R.form
  have c1 : w.cell? ⟨d, 1, none⟩ = some (.slice ga l.length cp) := B.cell 1
  have HG : Hid (∀ i (hi : i < l.length), ∃ g, ga = some ⟨g, 0, none⟩ ∧ w.cell? ⟨g, i * 4 + 3, none⟩ = some (.slice (l[i]'hi).o (l[i]'hi).f.ps.length (l[i]'hi).c)) := ⟨fun i hi => by
    obtain ⟨g, cap, e, _, _, _, _, _, c⟩ := R.get i hi
    simp only [Value.slice.injEq] at e
    exact ⟨g, e.1, c⟩⟩
  have HT := Hid.mk (usedN_take l)
  have HL := Hid.mk (usedN_le l)
  have h0 : usedN (l.take 0) = 0 := rfl
  have he : usedN (l.take l.length) = usedN l := by rw [List.take_length]
  obtain ⟨U, hU⟩ : ∃ U : Nat → Nat, U = fun i => usedN (l.take i) := ⟨_, rfl⟩
  have HTU : Hid (∀ i (hi : i < l.length), U (i + 1) = U i + ((l[i]'hi).f.ps.length + 1)) := ⟨by rw [hU]; exact usedN_take l⟩
  have HLU : Hid (∀ i, U i ≤ 65536) := ⟨fun i => by rw [hU]; exact Nat.le_trans (usedN_le l i) hu⟩
  have U0 : U 0 = 0 := by rw [hU]; rfl
  have UE : Hid (U l.length = usedN l) := ⟨by rw [hU]; exact he⟩
  clear hU h0 he HT HL R B hu HR
  go_enter Tryd.func34, Tryd.ntmps34
  go_wp2
  go_loopw [3, 4] (fun vs vc wr => ∃ i : Nat, ∃ s : Int, vs = .int .i64 s ∧ vc = .int .i64 i ∧ Hid (s = U i) ∧ i ≤ l.length ∧ wr = w) (fun _ vc _ => l.length - (intOf vc).toNat)
  case atStart => exact ⟨0, 0, rfl, rfl, ⟨by rw [U0]; rfl⟩, Nat.zero_le _, rfl⟩
  case round =>
    obtain ⟨i, s, rfl, rfl, hs, hi, hw⟩ := hrel
    subst wr
    by_cases hlt : i < l.length
    · obtain ⟨g, hg, cc⟩ := HG.out i hlt
      subst hg
      have ht := HTU.out i hlt
      have hb := HLU.out (i + 1)
      have hs1 := hs.out
      have b1 : 0 ≤ s := by omega
      have b2 : s + (l[i]'hlt).f.ps.length + 1 ≤ 65536 := by omega
      have HX : Hid (s + (l[i]'hlt).f.ps.length + 1 = U (i + 1)) := ⟨by omega⟩
      generalize l[i]'hlt = x at *
      obtain ⟨f, o, c⟩ := x
      dsimp only at *
      generalize f.ps.length = fn at *
      have hlt' : (i : Int) < l.length := by omega
      clear ht hb hs1
      go_wp2
      go_roundw
      case rel => exact ⟨i + 1, _, by go_num, by go_num, HX, by omega, trivial⟩
      case measure => simp [intOf] <;> omega
    · obtain rfl : i = l.length := by omega
      have hs1 := hs.out
      rw [UE.out] at hs1
      subst hs1
      go_wp2
      go_ret
      exact ⟨rfl, rfl⟩
end Go.Proofs.YtglimbpnekephaaDoor
