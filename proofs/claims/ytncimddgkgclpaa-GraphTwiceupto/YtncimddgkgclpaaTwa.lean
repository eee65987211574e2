/- GraphTwice: the walk. -/
import Derived.Test.YtncimddgkgclpaaTwp
import Derived.Test.YtncimddgkgclpaaGrc
import Derived.Test.YtncimddgkgclpaaNam
import Derived.Deep.RegionHeld3
namespace Go.Proofs.Ytncimddgkgclpaa
open Go.RowKit
set_option linter.unusedVariables false
set_option linter.unusedSimpArgs false
set_option maxRecDepth 100000

theorem below_drew (W : World) : Below W.heap.size W W.drew := Below.drew (Below.refl _ _)
theorem ps_news {kd : IntKind} {W : World} {o : Option Addr} {cap n : Nat} {l : List Int} (h : PS kd W o cap l) (hn : l.length = n) : 0 < n → ∃ a, o = some a ∧ ∀ j u, (l.map (Value.int kd))[j]? = some u → W.cell? (a.add j) = some u := fun hp => by
  obtain ⟨g, off, e, hx⟩ := h.num (by omega)
  refine ⟨_, e, fun j u hu => ?_⟩
  rw [List.getElem?_map] at hu
  cases hj : l[j]? with
  | none => rw [hj] at hu; cases hu
  | some x =>
    rw [hj] at hu
    cases hu
    obtain ⟨h1, h2⟩ := List.getElem?_eq_some_iff.1 hj
    have := hx j h1
    rw [h2] at this
    have e3 : (⟨g, off, none⟩ : Addr).add j = ⟨g, off + j, none⟩ := by unfold Addr.add; split <;> simp_all
    rw [e3]; exact this
theorem rowS_get {w : World} {base n cap : Nat} {ga : Option Addr} {L : List Int} (h : RowS w base 3 1 (.slice ga n cap) n (its L)) (i : Nat) (hi : i < n) : ∃ pb x, ga = some ⟨pb, 0, none⟩ ∧ L[i]? = some x ∧ w.cell? ⟨pb, i, none⟩ = some (.int .i64 x) ∧ n ≤ cap ∧ cap ≤ 9223372036854775807 := by
  rcases h with ⟨rfl, _⟩ | ⟨_, hl, ⟨_, q⟩ | ⟨pb, cp, cur, e, hb, hg, h1, h2, h3, h4⟩⟩
  · omega
  · omega
  · simp only [Value.slice.injEq] at e
    obtain ⟨rfl, _, rfl⟩ := e
    have h5 : (cur.toList.take (n * 1))[i]? = (its L)[i]? := by rw [h4]
    rw [List.getElem?_take_of_lt (by omega)] at h5
    have hil : i < L.length := by have : (its L).length = n * 1 := hl; simp [its] at this; omega
    refine ⟨pb, L[i], rfl, List.getElem?_eq_getElem hil, ?_, h1, h2⟩
    rw [Joins.cell_of_block hg]
    unfold its at h5
    rw [List.getElem?_map, List.getElem?_eq_getElem hil] at h5
    simpa using h5
theorem leads19u (g : Gr) (n : Nat) (o a : Option Addr) (cr ca : Nat) (w : World) (G : Gv w g o cr a ca) (hn : n < g.nd.length) (ok : OkN (nd0 g.nd n)) :
    Calls Try.prog 19 #[gv g o cr a ca, .int .i64 n] w fun e w' => e = .returned (.int .i64 (ldI g.nd n)) ∧ Below w.heap.size w w' := by
  unfold ldI
  cases hk : (nd0 g.nd n).ks with
  | nil => exact leads19_nil g n o a cr ca w G hn hk
  | cons k r =>
    simp only
    by_cases hf : (g.nd.length : Int) ≤ k
    · have e : geI g.nd.length k = -1 := if_pos hf
      rw [e]
      refine (leads19_far g n o a cr ca w G hn k r hk hf).mono ?_
      rintro e w' ⟨rfl, B⟩
      refine ⟨retInt ?_, B⟩
      split
      · rfl
      · rw [if_neg (fun q => by have := q.2; omega)]
    · have e : geI g.nd.length k = k := if_neg hf
      rw [e]
      by_cases hx : (nd0 g.nd n).k = 7 → k < 0 ∨ (nd0 g.nd n).ns = []
      · have := leads19_ind g n o a cr ca w G hn k r hk (by omega) hx
        refine this.mono ?_
        rintro e w' ⟨rfl, B⟩
        refine ⟨retInt ?_, B⟩
        split
        · rfl
        · split
          · rename_i q
            rcases hx q.1 with z | z
            · omega
            · rw [z]
          · rfl
      · have h7 : (nd0 g.nd n).k = 7 := Classical.byContradiction fun q => hx (fun z => absurd z q)
        have hk0 : ¬ k < 0 := fun q => hx (fun _ => .inl q)
        have hns : (nd0 g.nd n).ns ≠ [] := fun q => hx (fun _ => .inr q)
        obtain ⟨k', rfl⟩ : ∃ k' : Nat, k = k' := ⟨k.toNat, by omega⟩
        rw [if_neg (by omega), if_pos ⟨h7, by omega⟩]
        cases hj : (nd0 g.nd n).ns with
        | nil => exact absurd hj hns
        | cons j s =>
          simp only
          rw [show ((k' : Int)).toNat = k' by omega]
          exact leads19_sel g n k' o a cr ca w G hn r hk (by omega) j s hj (by have := ok j (by rw [hj]; simp); unfold InU64; omega) h7
/-- kids one behind the other -/
def kidsOf (l : List Nd) : List Int := l.flatMap fun x => x.ks
set_option maxHeartbeats 8000000 in
theorem twice6 (g0 : Gr) (o1 : Option Addr) (c1 : Nat) (a1 : Option Addr) (d1 : Nat) (w : World) (G : Gv w g0 o1 c1 a1 d1) (ok : OkG g0) (hns : ∀ x, x ∈ g0.nd → x.ns.length ≤ 1048576) :
    Calls Try.prog 6 #[gv g0 o1 c1 a1 d1] w fun e w' => e = .returned (.bool true) ∧ Below w.heap.size w w' := by
  have CF := few8 g0 o1 a1 c1 d1
  obtain ⟨f1, f2, f3⟩ := fewG_few g0
  have f4 := fewG_words (Q := fun l => l.length ≤ 1048576) hns
  have f5 := fewG_words (Q := fun l => ∀ n ∈ l, 0 ≤ n ∧ n < 18446744073709551616) (fun x hx n hn => by have := (ok.nd x hx).ns n hn; unfold InU64 at this; omega)
  generalize fewG g0 = g at *
  have hT := endI_range g.nd
  obtain ⟨s1, s2, s3⟩ := trG_few hT f1 f2 f3
  have s4 := trG_words hT (Q := fun l => l.length ≤ 1048576) f4
  have s5 := trG_words hT (Q := fun l => ∀ n ∈ l, 0 ≤ n ∧ n < 18446744073709551616) f5
  obtain ⟨s6, s7⟩ := trG_plc hT
  have hss := short_short g
  have hns2 := norm_short g
  have hsl := short_lead g
  have C13 := fun (W : World) (o a : Option Addr) (c d : Nat) (H : Gv W g o c a d) => short13 W g o a c d H (smOf f1 f2 f3 f4) (fun n hn => by rw [nd0_get hn]; exact f5 _ (List.getElem_mem hn))
  generalize trG (endI g.nd) g = s at *
  have smS := smOf s1 s2 s3 s4
  have okS : ∀ n, n < s.nd.length → OkN (nd0 s.nd n) := fun n hn => by rw [nd0_get hn]; exact s5 _ (List.getElem_mem hn)
  have C13s := fun (W : World) (o a : Option Addr) (c d : Nat) (H : Gv W s o c a d) => short13 W s o a c d H smS okS
  have C11s := fun (W : World) (o a : Option Addr) (c d : Nat) (H : Gv W s o c a d) => norm11 W s o a c d H smS
  rw [hss] at C13s
  rw [hns2] at C11s
  have CSM : ∀ (W : World) (o a o' a' : Option Addr) (c d c' d' : Nat), Gv W s o c a d → Gv W s o' c' a' d' → Calls Try.prog 15 #[gv s o c a d, gv s o' c' a' d'] W fun e w' => e = .returned (.bool true) ∧ Below W.heap.size W w' := fun W o a o' a' c d c' d' H H' =>
    (same15 s s o o' a a' c c' d d' W H H').mono fun e w' ⟨⟨x, e1, e2⟩, B⟩ => ⟨e1.trans (retBool (e2.2 (SameG.refl s))), B⟩
  have hld : ∀ n, n < s.nd.length → ldI s.nd n < 0 := fun n hn => ldI_neg hn (fun j hj => (okS n hn j hj).1) (hsl n)
  have HK : Hid (s.rs.length ≤ 60 ∧ s.nd.length ≤ 60 ∧ (∀ x, x ∈ s.nd → x.ks.length ≤ 20) ∧ Plc s.nd.length s.rs ∧ (∀ x, x ∈ s.nd → Plc s.nd.length x.ks) ∧ (∀ n, n < s.nd.length → ldI s.nd n < 0) ∧ (∀ n, n < s.nd.length → OkN (nd0 s.nd n))) := ⟨⟨s2, s1, s3, s6, s7, hld, okS⟩⟩
  have HAW := Hid.mk awake_any
  have HOK : Hid (∀ n, n < s.nd.length → OkN (nd0 s.nd n)) := ⟨okS⟩
  have hl1 : s.rs.length ≤ 60 := s2
  have hl2 : s.nd.length ≤ 60 := s1
  obtain ⟨n1, e1⟩ : ∃ n, s.rs.length = n := ⟨_, rfl⟩
  obtain ⟨n2, e2⟩ : ∃ n, s.nd.length = n := ⟨_, rfl⟩
  have HN1 := Hid.mk e1
  have HN2 := Hid.mk e2
  unfold gv at *
  rw [e1, e2] at C13s C11s CSM
  rw [e1, e2] at C13
  rw [e1] at hl1
  rw [e2] at hl2
  have H13 := Hid.mk C13
  have H13s := Hid.mk C13s
  have H11s := Hid.mk C11s
  have HSM := Hid.mk CSM
  have HF := Hid.mk CF
  clear C13 C13s C11s CSM CF s1 s2 s3 s4 s5 s6 s7 f1 f2 f3 f4 f5 hss hns2 hsl hld okS smS hT e1 e2 ok hns
  generalize g0.rs.length = m1 at *
  generalize g0.nd.length = m2 at *
  have B0 : Below w.heap.size w (w.alloc (.cells #[.slice o1 m1 c1, .slice a1 m2 d1] 25)) := by go_grown
  have G1 := G.later B0
  have HB0 := Hid.mk B0
  have HG1 := Hid.mk G1
  clear B0 G1 G
  go_enter Try.func6, Try.ntmps6
  go_wp2_with (first
    | (go_at_call 8; with_reducible refine (HF.out _ HG1.out).mono ?_; rintro e w1 ⟨a2, d2, rfl, G2, B2⟩; have HG2 := Hid.mk G2; have HB2 := Hid.mk (belowOn HB0.out B2); clear G2 B2)
    | (go_at_call 13; with_reducible refine (H13.out _ _ _ _ _ HG2.out).mono ?_; rintro e w2 ⟨o3, c3, a3, d3, rfl, G3, B3⟩; have HG3 := Hid.mk G3.gv; have HB3 := Hid.mk (belowOn HB2.out B3); clear G3 B3))
  have B4 : Below w2.heap.size w2 (w2.alloc (.cells #[.slice o3 n1 c3, .slice a3 n2 d3] 25)) := by go_grown
  have y0 : (w2.alloc (.cells #[.slice o3 n1 c3, .slice a3 n2 d3] 25)).cell? ⟨w2.heap.size, 0, none⟩ = some (.slice o3 n1 c3) := by simp [go_sem]
  have y1 : (w2.alloc (.cells #[.slice o3 n1 c3, .slice a3 n2 d3] 25)).cell? ⟨w2.heap.size, 1, none⟩ = some (.slice a3 n2 d3) := by simp [go_sem]
  have G4 := HG3.out.later B4
  have HB4 := Hid.mk (belowOn HB3.out B4)
  generalize w2.alloc (.cells #[.slice o3 n1 c3, .slice a3 n2 d3] 25) = W3 at *
  generalize w2.heap.size = z at *
  have HC := Hid.mk (fun (W : World) (b : Below W3.heap.size W3 W) => And.intro (cellLater b y0) (cellLater b y1))
  have HGS := Hid.mk (fun (W : World) (b : Below W3.heap.size W3 W) => G4.later b)
  have HX : Hid (Below W3.heap.size W3 W3.drew) := ⟨below_drew W3⟩
  clear B4 G4
  go_region_held3 (fun W' => W'.cell? ⟨z, 0, none⟩ = some (.slice o3 n1 c3) ∧ W'.cell? ⟨z, 1, none⟩ = some (.slice a3 n2 d3)) (go_keep) (first
    | (go_at_call 9; with_reducible refine (HAW.out _).mono ?_; rintro e w4 ⟨rfl, BA⟩; replace BA := (BA : Below W3.drew.heap.size W3.drew w4); replace HX := Hid.mk (belowOn HX.out BA); obtain ⟨x0, x1⟩ := HC.out _ HX.out; clear BA)
    | (go_at_call 13; with_reducible refine (H13s.out _ _ _ _ _ (HGS.out _ HX.out)).mono ?_; rintro e w5 ⟨o5, c5, a5, d5, rfl, G5, BA⟩; have HG5 := Hid.mk G5.gv; clear G5; replace HX := Hid.mk (belowOn HX.out BA); obtain ⟨x0, x1⟩ := HC.out _ HX.out; clear BA)
    | (go_at_call 15; with_reducible refine (HSM.out _ _ _ _ _ _ _ _ _ HG5.out (HGS.out _ HX.out)).mono ?_; rintro e w6 ⟨rfl, BA⟩;  replace HX := Hid.mk (belowOn HX.out BA); obtain ⟨x0, x1⟩ := HC.out _ HX.out; clear BA)
    | (go_at_call 11; with_reducible refine (H11s.out _ _ _ _ _ (HGS.out _ HX.out)).mono ?_; rintro e w7 ⟨o7, c7, a7, d7, rfl, G7, BA⟩; have HG7 := Hid.mk G7.gv; clear G7; replace HX := Hid.mk (belowOn HX.out BA); obtain ⟨x0, x1⟩ := HC.out _ HX.out; clear BA)
    | (go_at_call 15; with_reducible refine (HSM.out _ _ _ _ _ _ _ _ _ HG7.out (HGS.out _ HX.out)).mono ?_; rintro e w8 ⟨rfl, BA⟩;  replace HX := Hid.mk (belowOn HX.out BA); obtain ⟨x0, x1⟩ := HC.out _ HX.out; clear BA))
  have hz8 : Hid (W3.heap.size ≤ w8.heap.size) := ⟨HX.out.size⟩
  have HX8 := Hid.mk HX.out
  have HBW : Hid (Below w.heap.size w w8) := ⟨belowOn HB4.out HX.out⟩
  have BS : Below w8.heap.size w8 (w8.alloc (.cells #[] 3)) := by go_grown
  have hbs : w8.heap.size ≤ (w8.alloc (.cells #[] 3)).heap.size := BS.size
  have HBS := Hid.mk BS
  have HRS : Hid ((0 < n1 → ∃ a, o3 = some a ∧ ∀ j u, (its s.rs)[j]? = some u → (w8.alloc (.cells #[] 3)).cell? (a.add j) = some u) ∧ (its s.rs).length = n1 * 1) := ⟨ps_news ((HGS.out _ HX.out).rs.later BS) HN1.out, by simp [its, HN1.out]⟩
  have HPL : Hid (∀ x, x ∈ s.rs → -1 ≤ x ∧ x < n2) := ⟨fun x hx => by have := HK.out.2.2.2.1 x hx; rw [HN2.out] at this; exact this⟩
  obtain ⟨i0, hi0, hz0, hz1, hz2⟩ := info_parts info3
  obtain ⟨RS, hRS⟩ : ∃ l, its s.rs = its l ∧ ∀ x, x ∈ l → -1 ≤ x ∧ x < (n2 : Int) := ⟨s.rs, rfl, HPL.out⟩
  have HRSL : Hid (RS.length = n1) := ⟨by have h1 : (its s.rs).length = (its RS).length := by rw [hRS.1]
                                          simp [its] at h1; rw [← h1]; exact HN1.out⟩
  rw [hRS.1] at HRS
  have HRQ := Hid.mk hRS.2
  have t0 := cellLater BS (HC.out _ HX.out).1
  clear BS HX hRS
  go_wp2_with (at_builtin; go_loud (refine wpList_append_T rfl (.tmp 26) (.tmp 28) 22 rfl w8.heap.size 3 i0 _ 1 8 Try.underlying22 hi0 hz0 hz1 hz2 rfl (by decide) (.slice (some ⟨w8.heap.size, 0, none⟩) 0 0) 0 [] rfl (.inl ⟨rfl, rfl, _, rfl⟩) o3 n1 c3 (its RS) rfl HRS.out.2 HRS.out.1 (fun u hu => by obtain ⟨x, _, rfl⟩ := List.mem_map.1 hu; rfl) n1 (Nat.zero_add n1) (its RS) rfl (by unfold Go.maxLen; omega) (by omega) hbs ?_; intro g9 c9 w9 R9 BB9; have HR9 := Hid.mk R9; have HBB := Hid.mk (app_below BB9 hbs (fun h => absurd h (Nat.lt_irrefl _))); clear R9 BB9))
  have HB9 : Hid (Below w8.heap.size w8 w9) := ⟨HBS.out.trans HBB.out⟩
  clear HBB HBS t0 hbs
  go_loopw [4, 5] (fun mv cv wr => ∃ (i len cap : Nat) (ga : Option Addr), cv = .int .i64 i ∧ mv = .slice ga len cap ∧ i ≤ n2 ∧ len ≤ 60 + 20 * i ∧ Hid (Below w8.heap.size w8 wr ∧ ∃ L, RowS wr w8.heap.size 3 1 (.slice ga len cap) len (its L) ∧ ∀ x, x ∈ L → -1 ≤ x ∧ x < (n2 : Int))) (fun _ cv _ => n2 - (intOf cv).toNat)
  case atStart => exact ⟨0, n1, c9, g9, rfl, rfl, Nat.zero_le _, by omega, ⟨HB9.out, RS, HR9.out, HRQ.out⟩⟩
  case round =>
    obtain ⟨i, len, cap, ga, rfl, rfl, hi, hln, HI⟩ := hrel
    have HBR : Hid (Below W3.heap.size W3 wr) := ⟨HX8.out.trans (HI.out.1.mono hz8.out)⟩
    obtain ⟨x0, x1⟩ := HC.out _ HBR.out
    by_cases hlt : i < n2
    case neg =>
      obtain rfl : n2 = i := by omega
      obtain ⟨L, hL, hLx⟩ := HI.out.2
      have HL := Hid.mk (And.intro hL hLx)
      have hln2 : len ≤ 1260 := by omega
      clear hL hLx
      go_wp2
      rename World => wo
      go_loopw [6] (fun cv wq => ∃ j : Nat, cv = .int .i64 j ∧ j ≤ len ∧ Hid (Below wo.heap.size wo wq)) (fun cv _ => len - (intOf cv).toNat)
      case atStart => exact ⟨0, rfl, Nat.zero_le _, ⟨Below.refl _ _⟩⟩
      case round =>
        obtain ⟨j, rfl, hj, HQ⟩ := hrel
        have HBQ : Hid (Below W3.heap.size W3 wr) := ⟨belowOn HBR.out HQ.out⟩
        obtain ⟨x0, x1⟩ := HC.out _ HBQ.out
        by_cases hlj : j < len
        case neg =>
          obtain rfl : len = j := by omega
          go_wp2
          go_ret
          exact ⟨rfl, belowOn HB4.out HBQ.out⟩
        case pos =>
        have hlj' : (j : Int) < len := by omega
        obtain ⟨pb, x, rfl, hx, xc, hc1, hc2⟩ := rowS_get (HL.out.1.below HQ.out) j hlj
        have hxr := HL.out.2 x (List.mem_of_getElem? hx)
        have HXC := Hid.mk xc
        clear hx
        have hx1 : decide (x ≥ (n2 : Int)) = false := decide_eq_false (by omega)
        by_cases hneg : x < 0
        case pos =>
          obtain rfl : x = -1 := by omega
          have hx1b : decide ((n2 : Int) ≤ -1) = false := decide_eq_false (by omega)
          go_wp2
          refine wp_region_held_drew (S := (fun W' => W'.cell? ⟨z, 0, none⟩ = some (.slice o3 n1 c3) ∧ W'.cell? ⟨z, 1, none⟩ = some (.slice a3 n2 d3) ∧ W'.cell? ⟨pb, j, none⟩ = some (.int .i64 (-1)))) (by kernel_rfl) ?_ (fun hHeld => ?_)
          · try dsimp only
            go_keep
          refine wpAnyH_take (i := 0) (v := ?_) rfl (by kernel_rfl) (by kernel_rfl) (by kernel_rfl) (fun _ _ _ h => h) (Or.inl ⟨by rfl, ?_⟩) (by assumption) ?_
          rotate_left
          · intro w' hSw
            try dsimp only at hSw
            go_simp
            try with_reducible rfl
          try simp only [Act.put, List.getElem_toArray, List.getElem_cons_zero, List.getElem_cons_succ, List.setIfInBounds_toArray, List.set_cons_zero, List.set_cons_succ]
          refine wpAnyH_take (i := 1) (v := ?_) rfl (by kernel_rfl) (by kernel_rfl) (by kernel_rfl) (fun _ _ _ h => h) (Or.inl ⟨by rfl, ?_⟩) (by assumption) ?_
          rotate_left
          · intro w' hSw
            try dsimp only at hSw
            go_simp
            try with_reducible rfl
          try simp only [Act.put, List.getElem_toArray, List.getElem_cons_zero, List.getElem_cons_succ, List.setIfInBounds_toArray, List.set_cons_zero, List.set_cons_succ]
          refine wpAnyH_take (i := 2) (v := ?_) rfl (by kernel_rfl) (by kernel_rfl) (by kernel_rfl) (fun _ _ _ h => h) (Or.inl ⟨by rfl, ?_⟩) (by assumption) ?_
          rotate_left
          · intro w' hSw
            try dsimp only at hSw
            go_simp
            try with_reducible rfl
          try simp only [Act.put, List.getElem_toArray, List.getElem_cons_zero, List.getElem_cons_succ, List.setIfInBounds_toArray, List.set_cons_zero, List.set_cons_succ]
          refine wpAnyH_take (i := 3) (v := ?_) rfl (by kernel_rfl) (by kernel_rfl) (by kernel_rfl) (fun _ _ _ h => h) (Or.inl ⟨by rfl, ?_⟩) (by assumption) ?_
          rotate_left
          · intro w' hSw
            try dsimp only at hSw
            go_simp
            try with_reducible rfl
          try simp only [Act.put, List.getElem_toArray, List.getElem_cons_zero, List.getElem_cons_succ, List.setIfInBounds_toArray, List.set_cons_zero, List.set_cons_succ]
          refine wpAnyH_take (i := 4) (v := ?_) rfl (by kernel_rfl) (by kernel_rfl) (by kernel_rfl) (fun _ _ _ h => h) (Or.inl ⟨by rfl, ?_⟩) (by assumption) ?_
          rotate_left
          · intro w' hSw
            try dsimp only at hSw
            go_simp
            try with_reducible rfl
          try simp only [Act.put, List.getElem_toArray, List.getElem_cons_zero, List.getElem_cons_succ, List.setIfInBounds_toArray, List.set_cons_zero, List.set_cons_succ]
          refine wpAnyH_take (i := 5) (v := ?_) rfl (by kernel_rfl) (by kernel_rfl) (by kernel_rfl) (fun _ _ _ h => h) (Or.inl ⟨by rfl, ?_⟩) (by assumption) ?_
          rotate_left
          · intro w' hSw
            try dsimp only at hSw
            go_simp
            try with_reducible rfl
          try simp only [Act.put, List.getElem_toArray, List.getElem_cons_zero, List.getElem_cons_succ, List.setIfInBounds_toArray, List.set_cons_zero, List.set_cons_succ]
          refine wpAnyH_take (i := 6) (v := ?_) rfl (by kernel_rfl) (by kernel_rfl) (by kernel_rfl) (fun _ _ _ h => h) (Or.inl ⟨by rfl, ?_⟩) (by assumption) ?_
          rotate_left
          · intro w' hSw
            try dsimp only at hSw
            go_simp
            try with_reducible rfl
          try simp only [Act.put, List.getElem_toArray, List.getElem_cons_zero, List.getElem_cons_succ, List.setIfInBounds_toArray, List.set_cons_zero, List.set_cons_succ]
          refine wpAnyH_take (i := 7) (v := ?_) rfl (by kernel_rfl) (by kernel_rfl) (by kernel_rfl) (fun _ _ _ h => h) (Or.inl ⟨by rfl, ?_⟩) (by assumption) ?_
          rotate_left
          · intro w' hSw
            try dsimp only at hSw
            go_simp
            try with_reducible rfl
          try simp only [Act.put, List.getElem_toArray, List.getElem_cons_zero, List.getElem_cons_succ, List.setIfInBounds_toArray, List.set_cons_zero, List.set_cons_succ]
          refine wpAnyH_take (i := 8) (v := ?_) rfl (by kernel_rfl) (by kernel_rfl) (by kernel_rfl) (fun _ _ _ h => h) (Or.inl ⟨by rfl, ?_⟩) (by assumption) ?_
          rotate_left
          · intro w' hSw
            try dsimp only at hSw
            go_simp
            try with_reducible rfl
          try simp only [Act.put, List.getElem_toArray, List.getElem_cons_zero, List.getElem_cons_succ, List.setIfInBounds_toArray, List.set_cons_zero, List.set_cons_succ]
          refine wpAnyH_take (i := 9) (v := ?_) rfl (by kernel_rfl) (by kernel_rfl) (by kernel_rfl) (fun _ _ _ h => h) (Or.inl ⟨by rfl, ?_⟩) (by assumption) ?_
          rotate_left
          · intro w' hSw
            try dsimp only at hSw
            go_simp
            try with_reducible rfl
          try simp only [Act.put, List.getElem_toArray, List.getElem_cons_zero, List.getElem_cons_succ, List.setIfInBounds_toArray, List.set_cons_zero, List.set_cons_succ]
          refine wpAnyH_take (i := 10) (v := ?_) rfl (by kernel_rfl) (by kernel_rfl) (by kernel_rfl) (fun _ _ _ h => h) (Or.inl ⟨by rfl, ?_⟩) (by assumption) ?_
          rotate_left
          · intro w' hSw
            try dsimp only at hSw
            go_simp
            try with_reducible rfl
          try simp only [Act.put, List.getElem_toArray, List.getElem_cons_zero, List.getElem_cons_succ, List.setIfInBounds_toArray, List.set_cons_zero, List.set_cons_succ]
          refine wpAnyH_take (i := 11) (v := ?_) rfl (by kernel_rfl) (by kernel_rfl) (by kernel_rfl) (fun _ _ _ h => h) (Or.inl ⟨by rfl, ?_⟩) (by assumption) ?_
          rotate_left
          · intro w' hSw
            try dsimp only at hSw
            go_simp
            try with_reducible rfl
          try simp only [Act.put, List.getElem_toArray, List.getElem_cons_zero, List.getElem_cons_succ, List.setIfInBounds_toArray, List.set_cons_zero, List.set_cons_succ]
          refine wpAnyH_take (i := 12) (v := ?_) rfl (by kernel_rfl) (by kernel_rfl) (by kernel_rfl) (fun _ _ _ h => h) (Or.inl ⟨by rfl, ?_⟩) (by assumption) ?_
          rotate_left
          · intro w' hSw
            try dsimp only at hSw
            go_simp
            try with_reducible rfl
          try simp only [Act.put, List.getElem_toArray, List.getElem_cons_zero, List.getElem_cons_succ, List.setIfInBounds_toArray, List.set_cons_zero, List.set_cons_succ]
          refine wpAnyH_take (i := 13) (v := ?_) rfl (by kernel_rfl) (by kernel_rfl) (by kernel_rfl) (fun _ _ _ h => h) (Or.inl ⟨by rfl, ?_⟩) (by assumption) ?_
          rotate_left
          · intro w' hSw
            try dsimp only at hSw
            go_simp
            try with_reducible rfl
          try simp only [Act.put, List.getElem_toArray, List.getElem_cons_zero, List.getElem_cons_succ, List.setIfInBounds_toArray, List.set_cons_zero, List.set_cons_succ]
          refine wpAnyH_take (i := 14) (v := ?_) rfl (by kernel_rfl) (by kernel_rfl) (by kernel_rfl) (fun _ _ _ h => h) (Or.inl ⟨by rfl, ?_⟩) (by assumption) ?_
          rotate_left
          · intro w' hSw
            try dsimp only at hSw
            go_simp
            try with_reducible rfl
          try simp only [Act.put, List.getElem_toArray, List.getElem_cons_zero, List.getElem_cons_succ, List.setIfInBounds_toArray, List.set_cons_zero, List.set_cons_succ]
          refine wpAnyH_take (i := 15) (v := undef) rfl (by kernel_rfl) (by kernel_rfl) (by kernel_rfl) (fun _ _ _ h => h) (Or.inr ⟨by rfl, rfl⟩) (by assumption) ?_
          try simp only [Act.put, List.getElem_toArray, List.getElem_cons_zero, List.getElem_cons_succ, List.setIfInBounds_toArray, List.set_cons_zero, List.set_cons_succ]
          refine wpAnyH_take (i := 16) (v := undef) rfl (by kernel_rfl) (by kernel_rfl) (by kernel_rfl) (fun _ _ _ h => h) (Or.inr ⟨by rfl, rfl⟩) (by assumption) ?_
          try simp only [Act.put, List.getElem_toArray, List.getElem_cons_zero, List.getElem_cons_succ, List.setIfInBounds_toArray, List.set_cons_zero, List.set_cons_succ]
          refine wpAnyH_take (i := 17) (v := undef) rfl (by kernel_rfl) (by kernel_rfl) (by kernel_rfl) (fun _ _ _ h => h) (Or.inr ⟨by rfl, rfl⟩) (by assumption) ?_
          try simp only [Act.put, List.getElem_toArray, List.getElem_cons_zero, List.getElem_cons_succ, List.setIfInBounds_toArray, List.set_cons_zero, List.set_cons_succ]
          refine wpAnyH_take (i := 18) (v := undef) rfl (by kernel_rfl) (by kernel_rfl) (by kernel_rfl) (fun _ _ _ h => h) (Or.inr ⟨by rfl, rfl⟩) (by assumption) ?_
          try simp only [Act.put, List.getElem_toArray, List.getElem_cons_zero, List.getElem_cons_succ, List.setIfInBounds_toArray, List.set_cons_zero, List.set_cons_succ]
          refine wpAnyH_take (i := 19) (v := undef) rfl (by kernel_rfl) (by kernel_rfl) (by kernel_rfl) (fun _ _ _ h => h) (Or.inr ⟨by rfl, rfl⟩) (by assumption) ?_
          try simp only [Act.put, List.getElem_toArray, List.getElem_cons_zero, List.getElem_cons_succ, List.setIfInBounds_toArray, List.set_cons_zero, List.set_cons_succ]
          refine wpAnyH_take (i := 20) (v := undef) rfl (by kernel_rfl) (by kernel_rfl) (by kernel_rfl) (fun _ _ _ h => h) (Or.inr ⟨by rfl, rfl⟩) (by assumption) ?_
          try simp only [Act.put, List.getElem_toArray, List.getElem_cons_zero, List.getElem_cons_succ, List.setIfInBounds_toArray, List.set_cons_zero, List.set_cons_succ]
          refine wpAnyH_take (i := 21) (v := undef) rfl (by kernel_rfl) (by kernel_rfl) (by kernel_rfl) (fun _ _ _ h => h) (Or.inr ⟨by rfl, rfl⟩) (by assumption) ?_
          try simp only [Act.put, List.getElem_toArray, List.getElem_cons_zero, List.getElem_cons_succ, List.setIfInBounds_toArray, List.set_cons_zero, List.set_cons_succ]
          refine wpAnyH_take (i := 22) (v := ?_) rfl (by kernel_rfl) (by kernel_rfl) (by kernel_rfl) (fun _ _ _ h => h) (Or.inl ⟨by rfl, ?_⟩) (by assumption) ?_
          rotate_left
          · intro w' hSw
            try dsimp only at hSw
            go_simp
            try with_reducible rfl
          try simp only [Act.put, List.getElem_toArray, List.getElem_cons_zero, List.getElem_cons_succ, List.setIfInBounds_toArray, List.set_cons_zero, List.set_cons_succ]
          refine wpAnyH_take (i := 23) (v := ?_) rfl (by kernel_rfl) (by kernel_rfl) (by kernel_rfl) (fun _ _ _ h => h) (Or.inl ⟨by rfl, ?_⟩) (by assumption) ?_
          rotate_left
          · intro w' hSw
            try dsimp only at hSw
            go_simp
            try with_reducible rfl
          try simp only [Act.put, List.getElem_toArray, List.getElem_cons_zero, List.getElem_cons_succ, List.setIfInBounds_toArray, List.set_cons_zero, List.set_cons_succ]
          refine wpAnyH_done (by kernel_rfl) ?_ _
          go_wp2
          go_roundw
          case rel => exact ⟨j + 1, by go_num, by omega, ⟨HQ.out.drew⟩⟩
          case measure => simp [intOf]; omega
        case neg =>
          obtain ⟨p, rfl⟩ : ∃ p : Nat, x = p := ⟨x.toNat, by omega⟩
          have hp : p < s.nd.length := by rw [HN2.out]; omega
          have CL := leads19u s p o3 a3 c3 d3 wr.drew (HGS.out _ (HBQ.out.drew)) hp (HOK.out p hp)
          have hl0 := HK.out.2.2.2.2.2.1 p hp
          unfold gv at CL
          rw [HN1.out, HN2.out] at CL
          generalize ldI s.nd p = y at *
          have hy : decide (y ≥ 0) = false := decide_eq_false (by omega)
          have hx2 : decide ((p : Int) ≥ 0) = true := decide_eq_true (by omega)
          have hx1b : decide ((n2 : Int) ≤ (p : Int)) = false := decide_eq_false (by omega)
          have hx1c : decide (n2 ≤ p) = false := decide_eq_false (by omega)
          have hyb : decide (0 ≤ y) = false := decide_eq_false (by omega)
          have HCL := Hid.mk CL
          have HS := Hid.mk (fun (W : World) (b : Below wr.drew.heap.size wr.drew W) => And.intro (cellLater ((Below.refl _ wr).drew.trans b) x0) (And.intro (cellLater ((Below.refl _ wr).drew.trans b) x1) (cellLater ((Below.refl _ wr).drew.trans b) xc)))
          clear CL hl0 hp
          go_wp2
          go_region_held3 (fun W' => W'.cell? ⟨z, 0, none⟩ = some (.slice o3 n1 c3) ∧ W'.cell? ⟨z, 1, none⟩ = some (.slice a3 n2 d3) ∧ W'.cell? ⟨pb, j, none⟩ = some (.int .i64 (p : Int))) (go_keep) (first
            | (go_at_call 19; with_reducible refine HCL.out.mono ?_; rintro e w5 ⟨rfl, B5⟩; obtain ⟨s0, s1, s2⟩ := HS.out _ B5; have H5 := Hid.mk B5; clear B5))
          go_wp2
          go_roundw
          case rel => exact ⟨j + 1, by go_num, by omega, ⟨HQ.out.trans ((below_drew wr).trans H5.out |>.mono HQ.out.size)⟩⟩
          case measure => simp [intOf]; omega
    case pos =>
    have hlt' : (i : Int) < n2 := by omega
    have hin : i < s.nd.length := by rw [HN2.out]; exact hlt
    obtain ⟨q, off, p1, k1, p2, k2, rfl, hca, _, P1, P2, a0, a1', a2', a3'⟩ := (HGS.out _ HBR.out).nd.nd hin
    have hkl := HK.out.2.2.1 _ (List.getElem_mem hin)
    have hkp := HK.out.2.2.2.2.1 _ (List.getElem_mem hin)
    rw [← nd0_get hin] at hkl hkp
    rw [HN2.out] at hkp hca
    generalize nd0 s.nd i = X at *
    obtain ⟨KS, hKS⟩ : ∃ l, X.ks = l := ⟨_, rfl⟩
    rw [hKS] at P2 a3' hkl hkp
    obtain ⟨u, hu⟩ : ∃ n, KS.length = n := ⟨_, rfl⟩
    have HNW := Hid.mk (ps_news P2 hu)
    have HUL : Hid ((its KS).length = u * 1) := ⟨by simp [its, hu]⟩
    rw [hu] at a3' hkl
    obtain ⟨L, hL, hLx⟩ := HI.out.2
    have HL := Hid.mk (And.intro hL (And.intro hLx hkp))
    have HU := Hid.mk hu
    have hwr : w8.heap.size ≤ wr.heap.size := HI.out.1.size
    clear hL hLx hkp P1 P2 a0 a1' a2' hu hKS
    go_wp2_with (at_builtin; go_loud (refine wpList_append_T rfl (.tmp 37) (.tmp 43) 22 rfl w8.heap.size 3 i0 _ 1 8 Try.underlying22 hi0 hz0 hz1 hz2 rfl (by decide) (.slice ga len cap) len (its L) rfl HL.out.1 p2 u k2 (its KS) rfl HUL.out HNW.out (fun u hu => by obtain ⟨x, _, rfl⟩ := List.mem_map.1 hu; rfl) (len + u) rfl (its L ++ its KS) rfl (by unfold Go.maxLen; omega) (by omega) hwr ?_; intro gx cx wx Rx BBx; have HRX := Hid.mk Rx; have HBX := Hid.mk (app_below BBx hwr (fun h => fun k hk => (HL.out.1.lt h k hk).1)); clear Rx BBx))
    go_roundw
    case rel =>
      refine ⟨i + 1, len + u, cx, gx, by go_num, rfl, by omega, by omega, ⟨HI.out.1.trans HBX.out, L ++ KS, ?_, fun x hx => (List.mem_append.1 hx).elim (HL.out.2.1 x) (HL.out.2.2 x)⟩⟩
      have e : its (L ++ KS) = its L ++ its KS := by simp [its]
      rw [e]
      exact HRX.out
    case measure => simp [intOf]; omega

end Go.Proofs.Ytncimddgkgclpaa
