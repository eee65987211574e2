/- The way's forward. -/
import Derived.Test.YtncimddgkgclpaaWye
namespace Go.Proofs.Ytncimddgkgclpaa
open Go.RowKit
set_option linter.unusedVariables false
set_option linter.unusedSimpArgs false
set_option maxRecDepth 100000

/-- how long the path is, as the memory tells -/
def plen (w : World) (wb : Nat) : Nat := match w.cell? ⟨wb, 2, none⟩ with
  | some (.slice _ n _) => n
  | _ => 0
theorem info67 : (Try.prog.info? 67).map (fun i => (i.zero, i.size, i.bytes)) = some (some (.agg #[.int .i64 0, .bool false]), 2, 16) := by kernel_rfl
theorem info_parts' {P : Program} {t : TypeId} {z : Value} {s b : Nat} (h : (P.info? t).map (fun i => (i.zero, i.size, i.bytes)) = some (some z, s, b)) : ∃ i, P.info? t = some i ∧ i.zero = some z ∧ i.size = s ∧ i.bytes = b := by
  cases hi : P.info? t with
  | none => rw [hi] at h; cases h
  | some i => rw [hi] at h; simp at h; exact ⟨i, rfl, h.1, h.2.1, h.2.2⟩
theorem nv_of {v : Value} {wb N gq q cq : Nat} (h : v.ownBlock ≠ some wb) (hl : wb < N) (hat : v.ownBlock = some gq ∨ gq = N) : (Value.slice (some ⟨gq, 0, none⟩) q cq).ownBlock ≠ some wb := by
  intro e
  have e' : gq = wb := Option.some.inj e
  subst e'
  rcases hat with r | r
  · exact h r
  · omega
section
variable {w0 w w' : World} {wb eb sb ca : Nat} {g : List Nd} {a : Option Addr} {E S : Nat → Int} {v : Value} {P : List (Nat × Bool)}
theorem Wy.plen (h : Wy w0 w wb eb sb g a ca E S v P) : plen w wb = P.length := by
  unfold Go.Proofs.Ytncimddgkgclpaa.plen
  rw [h.c2]
  rcases h.path.2 with ⟨rfl, e⟩ | ⟨pb, cap, cur, rfl, _⟩
  · exact e.symm
  · rfl
theorem Wy.form (h : Wy w0 w wb eb sb g a ca E S v P) : ∃ ga cap, v = .slice ga P.length cap := by
  rcases h.path.2 with ⟨rfl, e⟩ | ⟨pb, cap, cur, rfl, _⟩
  · exact ⟨none, 0, by rw [e]⟩
  · exact ⟨_, _, rfl⟩
/-- what forward leaves -/
structure Fwd (w0 w w' : World) (wb eb sb : Nat) (g : List Nd) (a : Option Addr) (ca : Nat) (F : Nat) (P0 : List (Nat × Bool)) (n x : Nat) : Prop where
  lx : x < g.length
  ex : ∃ E' S' v' P', Wy w0 w' wb eb sb g a ca E' S' v' (P0 ++ P') ∧ Iw g E' S' (P0 ++ P') ∧ Chn g P' n x ∧ fresh E' S' g.length + P'.length ≤ F
  kx : Kx w0.heap.size (Xw wb eb sb) w w'
set_option maxHeartbeats 8000000 in
theorem forward42 {P0 : List (Nat × Bool)} (h : Wy w0 w wb eb sb g a ca E S v P0) (I : Iw g E S P0) {n n0 : Nat} (hn : n < g.length) (hch : Chn g P0 n0 n) (hm : g.length ≤ 1000) (hP : P0.length ≤ 1000) :
    Calls Try.prog 42 #[pt wb, .int .i64 n] w fun e w' => ∃ x, e = .returned (.int .i64 (oI (endF g x))) ∧ Fwd w0 w w' wb eb sb g a ca (fresh E S g.length) P0 n x := by
  obtain ⟨m, hm'⟩ : ∃ m, g.length = m := ⟨_, rfl⟩
  have HM := Hid.mk hm'
  have HF : Hid (fresh E S g.length ≤ 1000) := ⟨Nat.le_trans (cnt_max _ _) hm⟩
  obtain ⟨F, hF⟩ : ∃ F, F = fresh E S g.length := ⟨_, rfl⟩
  rw [← hF] at HF ⊢
  have H0 := Hid.mk h
  have HI := Hid.mk I
  have HC := Hid.mk hch
  have HFF := Hid.mk hF
  have hF1 := HF.out
  clear h I hch hF HF
  rw [hm'] at hn hm
  clear hm'
  go_enter Try.func42, Try.ntmps42
  go_wp2
  go_loopw [1] (fun cv wr => ∃ (x : Nat), cv = .int .i64 x ∧ x < m ∧ Hid (∃ E1 S1 v1 P1, Wy w0 wr wb eb sb g a ca E1 S1 v1 (P0 ++ P1) ∧ Iw g E1 S1 (P0 ++ P1) ∧ Chn g P1 n x ∧ fresh E1 S1 g.length + P1.length ≤ F) ∧ Hid (Kx w0.heap.size (Xw wb eb sb) w wr)) (fun _ wr => F + P0.length - plen wr wb)
  case atStart => exact ⟨n, rfl, hn, ⟨E, S, v, [], by simpa using H0.out, by simpa using HI.out, rfl, by have := HFF.out; simp; omega⟩, ⟨Kx.refl _ _ _⟩⟩
  case round =>
    obtain ⟨x, rfl, hx, HE, HK⟩ := hrel
    obtain ⟨E1, S1, v1, P1, H1, I1, C1, F1⟩ := HE.out
    have hx' : (x : Int) < m := by omega
    have hxg : x < g.length := by rw [HM.out]; exact hx
    have c1 := H1.c1
    have c2 := H1.c2
    have c3 := H1.c3
    have ce := H1.ends.cell hxg
    have cs := H1.spots.cell hxg
    have z1 := H1.ends.z x
    have z2 := H1.spots.z x
    rw [HM.out] at c1 c3
    have HH1 := Hid.mk H1
    have HI1 := Hid.mk I1
    have HC1 := Hid.mk C1
    have HF1 := Hid.mk F1
    have HNX := Hid.mk (next48 H1 hxg)
    obtain ⟨ga, pc, ev⟩ := H1.form
    by_cases h1 : E1 x = -2
    case neg =>
      have g1 : (E1 x == -2) = false := by simpa using h1
      have he : Hid (E1 x = oI (endF g x)) := ⟨(I1.e x hxg).resolve_left h1⟩
      clear H1 I1 C1 F1 h1
      go_wp2
      go_ret
      exact ⟨x, by rw [← he.out]; rfl, ⟨hxg, ⟨E1, S1, v1, P1, HH1.out, HI1.out, HC1.out, HF1.out⟩, HK.out⟩⟩
    case pos =>
    have g1 : (E1 x == -2) = true := by simpa using h1
    rcases I1.s x hxg h1 with h2 | ⟨k, hk, h2, h3⟩
    case inr =>
      have CR := ring47 H1 hk (by have := hP; have := F1; have := hF1; rw [List.length_append]; omega)
      have hr : Hid (endF g x = ringO ((P0 ++ P1).drop k)) := ⟨Iw.ring (E := E1) (S := S1) (HC.out.app C1) hk h3⟩
      have g2 : (S1 x != -1) = true := by rw [h2]; simp
      rw [h2] at cs
      rw [h2] at g2
      generalize hrr : oI (ringO ((P0 ++ P1).drop k)) = r at *
      have HRR := Hid.mk hrr
      clear hrr
      clear H1 I1 C1 F1 h1 h2 HNX
      go_wp2_with (go_at_call 47; refine CR.mono ?_; clear CR; rintro e w1 ⟨rfl, B1⟩)
      go_ret
      exact ⟨x, by rw [hr.out, HRR.out]; rfl, ⟨hxg, ⟨E1, S1, v1, P1, HH1.out.later B1, HI1.out, HC1.out, HF1.out⟩, HK.out.trans (Kx.later HH1.out.bel.size B1)⟩⟩
    case inl =>
      have g2 : (S1 x != -1) = false := by rw [h2]; rfl
      obtain ⟨n1, n2, n3, n4, n5⟩ := H1.no
      cases hnx : nxO g.length (nd0 g x) with
      | none =>
        have he : Hid (endF g x = some x) := ⟨nx_none hnx⟩
        rw [hnx] at HNX
        have hS := Hid.mk h2
        clear H1 I1 C1 F1 h1 h2 hnx
        go_wp2_with (go_at_call 48; refine HNX.out.mono ?_; clear HNX; rintro e w1 ⟨rfl, B1⟩; have d1 := cellLater B1 c1; have de := cellLater B1 ce; have dz : w1.frozen? ⟨eb, x, none⟩ = false := (HH1.out.later B1).ends.z x)
        go_ret
        have HW := (HH1.out.later B1).setE hxg x
        exact ⟨x, by rw [he.out]; rfl, ⟨hxg, ⟨upd E1 x x, S1, v1, P1, HW, HI1.out.set hS.out he.out, HC1.out, Nat.le_trans (Nat.add_le_add_right (fresh_set hxg x (by omega)) _) HF1.out⟩, HK.out.trans ((Kx.later HH1.out.bel.size B1).trans (Kx.set (.inr (.inl rfl)) HH1.out.lo.2.1))⟩⟩
      | some y =>
        have hwt : Hid (Wt g (x, decide ((nd0 g x).k = 8)) y) := ⟨nx_some hxg hnx⟩
        rw [hnx] at HNX
        have hS := Hid.mk h2
        have hE := Hid.mk h1
        subst ev
        generalize decide ((nd0 g x).k = 8) = b at *
        have y1 : ((y : Int) == -1) = false := by simp
        obtain ⟨p, hp⟩ : ∃ p, (P0 ++ P1).length = p := ⟨_, rfl⟩
        have HPL := Hid.mk hp
        rw [hp] at c2
        clear H1 I1 C1 F1 h1 h2 hnx hp
        go_wp2_with (go_at_call 48; refine HNX.out.mono ?_; clear HNX; rintro e w1 ⟨rfl, B1⟩; have d1 := cellLater B1 c1; have d2 := cellLater B1 c2; have d3 := cellLater B1 c3; have ds := cellLater B1 cs; have dz : w1.frozen? ⟨sb, x, none⟩ = false := (HH1.out.later B1).spots.z x)
        go_region
        have B2 : Below w1.heap.size w1 w1.drew := (Below.refl _ _).drew
        have H2 := ((HH1.out.later B1).setS hxg (p : Int)).later (show Below _ (w1.setCell ⟨sb, x, none⟩ (.int .i64 p)) (w1.setCell ⟨sb, x, none⟩ (.int .i64 p)).drew from (Below.refl _ _).drew)
        have K2 : Kx w0.heap.size (Xw wb eb sb) wr (w1.setCell ⟨sb, x, none⟩ (.int .i64 p)).drew := ((Kx.later HH1.out.bel.size B1).trans (Kx.set (.inr (.inr rfl)) HH1.out.lo.2.2)).trans (Kx.later (HH1.out.later B1 |>.setS hxg (p : Int)).bel.size (Below.refl _ _).drew)
        generalize (w1.setCell ⟨sb, x, none⟩ (.int .i64 p)).drew = W2 at *
        have HH2 := Hid.mk H2
        have HK2 := Hid.mk K2
        have e0 := H2.c0
        have e2 := H2.c2
        have e3 := H2.c3
        rw [HPL.out] at e2
        have BA := Joins.below_alloc1 W2 (.cells #[.int .i64 x, .bool b] 67)
        have H3 := H2.later BA
        have HH3 := Hid.mk H3
        have e4 := cellLater BA e2
        have R3 := H3.path
        rw [HPL.out] at R3
        have HR3 := Hid.mk R3
        have hW2 : w0.heap.size ≤ (W2.alloc (.cells #[.int .i64 x, .bool b] 67)).heap.size := H3.bel.size
        have hlt2 : wb < (W2.alloc (.cells #[.int .i64 x, .bool b] 67)).heap.size := H3.ltm
        have hno := Hid.mk H3.no.2.2.1
        have hp1 : p ≤ 100000 := by have := HF1.out; have := HPL.out; simp at this; have := hF1; omega
        obtain ⟨i0, hi, hz0, hz1, hz2⟩ := info_parts' info67
        clear H2 K2 H3 R3 d1 d2 d3 ds dz c1 c2 c3 ce cs
        go_wp2_with (at_builtin; go_loud (refine wpList_append_lies _ rfl (.tmp 62) (.tmp 66) 62 rfl w0.heap.size 67 i0 _ 2 16 Try.underlying62 hi hz0 hz1 hz2 rfl (by decide) (.slice ga p pc) p (flat (P0 ++ P1)) rfl HR3.out ⟨W2.heap.size, 0, none⟩ 1 1 [.int .i64 x, .bool b] rfl rfl (World.news_of_block (heap_alloc_new _ _)) (by simp [Value.oneCell']) (by decide) (by unfold Go.maxLen; omega) (by omega) hW2 _ rfl ?_; intro gq cq w3 hown hgr hat hlt; obtain ⟨b2, zb, HW, HKK⟩ := HH3.out.push (x := x) (b := b) (v' := .slice (some ⟨gq, 0, none⟩) (p + 1) cq) (by rw [HPL.out]; exact hown) (by rw [HPL.out]; exact hgr) (nv_of hno.out hlt2 (by rw [HPL.out]; exact hat)); rw [HPL.out] at b2; clear hown hgr hat))
        go_roundw
        case rel =>
          have hfr : fresh E1 (upd S1 x (P0 ++ P1).length) g.length < fresh E1 S1 g.length := fresh_push hxg _ hE.out hS.out
          exact ⟨y, rfl, by have := hwt.out.lt.2; rw [HM.out] at this; exact this, ⟨E1, upd S1 x (P0 ++ P1).length, _, P1 ++ [(x, b)], by rw [← List.append_assoc, HPL.out]; exact HW.out, by rw [← List.append_assoc]; exact HI1.out.push hS.out hE.out hxg b, HC1.out.app ⟨rfl, y, hwt.out, rfl⟩, by have := HF1.out; have l2 : (P1 ++ [(x, b)]).length = P1.length + 1 := (by simp); rw [l2]; omega⟩, ⟨HK.out.trans (HK2.out.trans ((Kx.later HH2.out.bel.size (Joins.below_alloc1 _ _)).trans HKK.out))⟩⟩
        case measure =>
          have q1 := HW.out.plen
          have q2 := HH1.out.plen
          rw [q1, q2]
          have hfr : fresh E1 (upd S1 x (P0 ++ P1).length) g.length < fresh E1 S1 g.length := fresh_push hxg _ hE.out hS.out
          have := HF1.out
          simp
          omega
end
end Go.Proofs.Ytncimddgkgclpaa
