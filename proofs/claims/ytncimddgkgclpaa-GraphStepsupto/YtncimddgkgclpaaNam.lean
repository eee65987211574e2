/- The document's named. -/
import Derived.Test.YtncimddgkgclpaaMef
namespace Go.Proofs.Ytncimddgkgclpaa
open Go.RowKit
set_option linter.unusedVariables false
set_option linter.unusedSimpArgs false
set_option maxRecDepth 100000

def its (l : List Int) : List Value := l.map fun (n : Int) => Value.int .i64 n
/-- a number's name -/
def nmI (m : Nat) (E : Nat → Int) (z : Int) : Int := if 0 ≤ kn m z then E (kn m z).toNat else -1
set_option maxHeartbeats 8000000 in
theorem named25 (m n1 cr ca : Nat) (o a : Option Addr) (l : List Int) (o2 : Option Addr) (c2 nb nc : Nat) (E : Nat → Int) (w : World) (P : PS .i64 w o2 c2 l) (hE : ∀ p, p < m → w.cell? ⟨nb, p, none⟩ = some (.int .i64 (E p))) (hm : m ≤ nc) (hl : l.length ≤ 1000000) (hml : m ≤ 1000) :
    Calls Try.prog 25 #[.agg #[.slice o n1 cr, .slice a m ca], .slice o2 l.length c2, .slice (some ⟨nb, 0, none⟩) m nc] w fun e w' => ∃ v, e = .returned v ∧ w'.ownsRow w.heap.size 3 1 v l.length (its (l.map (nmI m E))) ∧ Below w.heap.size w w' := by
  have hc2 := P.cap
  obtain ⟨k, hk⟩ : ∃ k, l.length = k := ⟨_, rfl⟩
  have HK := Hid.mk hk
  have HP := Hid.mk P
  have HE := Hid.mk hE
  rw [hk] at hl hc2 ⊢
  clear hk P hE
  have RE := fun (x : Int) (W : World) => real_any o a n1 cr m ca x W
  have HRE := Hid.mk RE
  have HKN : Hid (∀ x, -1 ≤ kn m x ∧ kn m x < m) := ⟨fun x => by unfold kn; split <;> omega⟩
  have HNM : Hid (∀ z, nmI m E z = if 0 ≤ kn m z then E (kn m z).toNat else -1) := ⟨fun z => rfl⟩
  generalize nmI m E = NM at *
  generalize kn m = KN at *
  clear RE
  have B0 : Below w.heap.size w (w.alloc (.cells #[.slice o n1 cr, .slice a m ca] 25)) := by go_grown
  have bx : (w.alloc (.cells #[.slice o n1 cr, .slice a m ca] 25)).heap[w.heap.size]? = some (.cells #[.slice o n1 cr, .slice a m ca] 25 (0, 0)) := heap_alloc_new _ _
  have HB0 := Hid.mk B0
  have HBX := Hid.mk bx
  obtain ⟨W1, hW1⟩ : ∃ W1, W1 = w.alloc (.cells #[.slice o n1 cr, .slice a m ca] 25) := ⟨_, rfl⟩
  have HS : Hid (∀ W, Ky w.heap.size (fun _ => False) [3] W1 W → Below w.heap.size w W ∧ W.cell? ⟨w.heap.size, 0, none⟩ = some (.slice o n1 cr) ∧ W.cell? ⟨w.heap.size, 1, none⟩ = some (.slice a m ca)) := ⟨fun W K => by
    subst hW1
    have b5 := K.keep _ _ _ _ bx (by decide) id
    exact ⟨B0.trans K.bel, by rw [Joins.cell_of_block b5]; rfl, by rw [Joins.cell_of_block b5]; rfl⟩⟩
  have HW1 := Hid.mk hW1
  have hml2 : m ≤ 9223372036854775807 := by omega
  clear B0 bx hW1
  obtain ⟨i0, hi0, hz0, hz1, hz2⟩ := info_parts info3
  go_enter Try.func25, Try.ntmps25
  go_wp2
  rw [← HW1.out]
  go_loopw [7, 8, 9] (fun rv cv _ wr => ∃ (i : Nat) (gr : Option Addr) (rc : Nat), cv = .int .i64 i ∧ rv = .slice gr i rc ∧ i ≤ k ∧ Hid (wr.ownsRow w.heap.size 3 1 (.slice gr i rc) i (its ((l.take i).map NM)) ∧ Ky w.heap.size (fun _ => False) [3] W1 wr)) (fun _ cv _ _ => k - (intOf cv).toNat)
  case atStart => exact ⟨0, none, 0, rfl, rfl, Nat.zero_le _, ⟨World.ownsRow_nil _ _ _ _, Ky.refl _ _ _ _⟩⟩
  case round =>
    obtain ⟨i, gr, rc, rfl, rfl, hik, HI⟩ := hrel
    obtain ⟨bw, x0, x1⟩ := HS.out _ HI.out.2
    have HBW := Hid.mk bw
    by_cases hlt : i < k
    case neg =>
      obtain rfl : i = k := by omega
      go_wp2
      go_ret
      have h := HI.out.1
      rw [← HK.out, List.take_length, HK.out] at h
      exact ⟨_, rfl, h, HBW.out⟩
    case pos =>
    have hlt' : (i : Int) < k := by omega
    have kl : i < l.length := by rw [HK.out]; exact hlt
    obtain ⟨g2, f2, rfl, y0⟩ := HP.out.get i kl
    have y1 := cellLater bw y0
    have HT : Hid (its ((l.take (i + 1)).map NM) = its ((l.take i).map NM) ++ [.int .i64 (NM l[i])]) := ⟨by unfold its; rw [List.take_succ_eq_append_getElem kl]; simp only [List.map_append, List.map_cons, List.map_nil]⟩
    generalize l[i] = z at *
    have CR := HRE.out z wr.drew
    have HCR := Hid.mk CR
    have hz1 := HKN.out z
    have hz2 := HNM.out z
    have HL : Hid (∀ W, Below wr.drew.heap.size wr.drew W → Ky w.heap.size (fun _ => False) [3] W1 W ∧ W.cell? ⟨w.heap.size, 0, none⟩ = some (.slice o n1 cr) ∧ W.cell? ⟨w.heap.size, 1, none⟩ = some (.slice a m ca) ∧ W.cell? ⟨g2, f2 + i, none⟩ = some (.int .i64 z) ∧ (∀ p, p < m → W.cell? ⟨nb, p, none⟩ = some (.int .i64 (E p))) ∧ W.ownsRow w.heap.size 3 1 (.slice gr i rc) i (its ((l.take i).map NM))) := ⟨fun W B => by
      have b1 : Below wr.heap.size wr W := (Below.refl _ wr).drew.trans B
      have K := HI.out.2.trans (Ky.later HBW.out.size b1)
      obtain ⟨s0, s1, s2⟩ := HS.out _ K
      exact ⟨K, s1, s2, cellLater s0 y0, fun p hp => cellLater s0 (HE.out p hp), own_later HI.out.1 b1⟩⟩
    clear CR bw y0
    by_cases hneg : KN z < 0
    case pos =>
      have hk1 : KN z = -1 := by omega
      have HNM2 : Hid (NM z = -1) := ⟨by rw [hz2, if_neg (by omega)]⟩
      rw [hk1] at HCR
      clear hz1 hz2 hk1 hneg
      go_wp2
      go_region_held3 (fun W' => W'.cell? ⟨w.heap.size, 0, none⟩ = some (.slice o n1 cr) ∧ W'.cell? ⟨w.heap.size, 1, none⟩ = some (.slice a m ca) ∧ W'.cell? ⟨g2, f2 + i, none⟩ = some (.int .i64 z)) (go_keep) (first
        | (go_at_call 35; with_reducible refine HCR.out.mono ?_; rintro e w5 ⟨rfl, B5⟩; obtain ⟨K5, s0, s1, s2, s3, s4⟩ := HL.out _ B5; have H5 := Hid.mk (And.intro K5 s4); clear K5 s3 s4 B5))
      have HZ : Hid (Below w5.heap.size w5 (w5.alloc (.cells #[.int .i64 (-1)] 3))) := ⟨by go_grown⟩
      have hsz : w.heap.size ≤ w5.heap.size := (HS.out _ H5.out.1).1.size
      go_wp2_with (at_builtin; go_loud (refine wpList_append_lies _ rfl (.tmp 28) (.tmp 30) 22 rfl w.heap.size 3 i0 _ 1 8 Try.underlying22 hi0 hz0 hz1 hz2 rfl (by decide) (.slice gr i rc) i (its ((l.take i).map NM)) rfl (own_later H5.out.2 HZ.out) ⟨w5.heap.size, 0, none⟩ 1 1 [.int .i64 (-1)] rfl rfl (World.news_of_block (heap_alloc_new _ _)) (by simp [Value.oneCell']) (by decide) (by unfold Go.maxLen; omega) (by omega) (Nat.le_trans hsz HZ.out.size) _ rfl ?_; intro gz cz w9 hown hgr hat hlt; have H9 := Hid.mk (And.intro hown hgr); clear hown hgr hat hlt))
      go_roundw
      case rel =>
        obtain ⟨hown, hgr⟩ := H9.out
        have K6 := H5.out.1.trans (Ky.later hsz HZ.out)
        refine ⟨i + 1, _, cz, by go_num, rfl, by omega, ⟨?_, K6.trans (Ky.own hgr (own_later H5.out.2 HZ.out) (by decide) (Nat.le_trans hsz HZ.out.size))⟩⟩
        rw [HT.out, HNM2.out]
        exact hown
      case measure => simp [intOf]; omega
    case neg =>
      obtain ⟨p, hk1⟩ : ∃ p : Nat, KN z = p := ⟨(KN z).toNat, by omega⟩
      have hp : p < m := by omega
      have HNM2 : Hid (NM z = E p) := ⟨by rw [hz2, if_pos (by omega), hk1]; rfl⟩
      have hpi : (p : Int) < m := by omega
      rw [hk1] at HCR
      clear hz1 hz2 hk1 hneg
      go_wp2
      go_region_held3 (fun W' => W'.cell? ⟨w.heap.size, 0, none⟩ = some (.slice o n1 cr) ∧ W'.cell? ⟨w.heap.size, 1, none⟩ = some (.slice a m ca) ∧ W'.cell? ⟨g2, f2 + i, none⟩ = some (.int .i64 z)) (go_keep) (first
        | (go_at_call 35; with_reducible refine HCR.out.mono ?_; rintro e w5 ⟨rfl, B5⟩; obtain ⟨K5, s0, s1, s2, s3, s4⟩ := HL.out _ B5; have H5 := Hid.mk (And.intro K5 s4); have s5 := s3 p hp; clear K5 s3 s4 B5))
      have HZ : Hid (Below w5.heap.size w5 (w5.alloc (.cells #[.int .i64 (E p)] 3))) := ⟨by go_grown⟩
      have hsz : w.heap.size ≤ w5.heap.size := (HS.out _ H5.out.1).1.size
      go_wp2_with (at_builtin; go_loud (refine wpList_append_lies _ rfl (.tmp 28) (.tmp 30) 22 rfl w.heap.size 3 i0 _ 1 8 Try.underlying22 hi0 hz0 hz1 hz2 rfl (by decide) (.slice gr i rc) i (its ((l.take i).map NM)) rfl (own_later H5.out.2 HZ.out) ⟨w5.heap.size, 0, none⟩ 1 1 [.int .i64 (E p)] rfl rfl (World.news_of_block (heap_alloc_new _ _)) (by simp [Value.oneCell']) (by decide) (by unfold Go.maxLen; omega) (by omega) (Nat.le_trans hsz HZ.out.size) _ rfl ?_; intro gz cz w9 hown hgr hat hlt; have H9 := Hid.mk (And.intro hown hgr); clear hown hgr hat hlt))
      go_roundw
      case rel =>
        obtain ⟨hown, hgr⟩ := H9.out
        have K6 := H5.out.1.trans (Ky.later hsz HZ.out)
        refine ⟨i + 1, _, cz, by go_num, rfl, by omega, ⟨?_, K6.trans (Ky.own hgr (own_later H5.out.2 HZ.out) (by decide) (Nat.le_trans hsz HZ.out.size))⟩⟩
        rw [HT.out, HNM2.out]
        exact hown
      case measure => simp [intOf]; omega
end Go.Proofs.Ytncimddgkgclpaa
