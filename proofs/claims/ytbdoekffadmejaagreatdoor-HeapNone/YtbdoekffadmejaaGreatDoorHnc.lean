/- Package heap: a space is freed; all that were set aside. -/
import Derived.Test.YtbdoekffadmejaaGreatDoorHnb
namespace Go.Proofs.YtbdoekffadmejaaGreatDoor
open Go.RowKit
set_option linter.unusedVariables false
set_option linter.unusedSimpArgs false
set_option maxRecDepth 100000

abbrev tfr (σ : Nat) (t : Tg) : Prop := t = .sb σ ∨ t = .pr
theorem tfr_hTn {σ : Nat} {t : Tg} (h : tfr σ t) : hTn t := by
  rcases h with rfl | rfl <;> (rintro (e | ⟨n, e⟩) <;> cases e)
section
variable {w w' : World} {γ γ' : Nat → Tg} {h : Nat} {k : Value} {A : Ad} {H : Hs}
theorem free_hm (q : Hm w γ h k A H) {σ : Nat} {S : Bp.S0} (sp : SpM w γ A.p A.a σ S) (ap : ∀ g s, g < H.c.g → s < H.c.n g → A.σ g s ≠ σ) (FI : Bp.Fit S (H.c.b * 64)) (hl : S.l.length ≤ 1000) (hz : Bp.frees H.c.b H.f S.l 0 ≠ -1) :
    Calls Tryz.prog 82 #[pt σ] w fun e w' => e = .returned (.int .i64 0) ∧ Fr (tfr σ) w w' γ γ ∧ Hm w' γ h k A { H with f := Bp.frees H.c.b H.f S.l } := by
  obtain ⟨m, v, hS, s1, s2, s3⟩ := sp
  obtain ⟨pb, hP, p1, p2⟩ := q.pool
  obtain ⟨ab, hA, a1, a2⟩ := q.ar
  have ne : ∀ {x y : Nat}, γ x ≠ γ y → x ≠ y := fun e q => e (by rw [q])
  have AP : Bp.Ap σ m v A.p pb A.a ab := by
    refine ⟨?_, ne (by rw [p1, a1]; nofun), ne (by rw [p1, a2]; nofun), ne (by rw [p2, a1]; nofun), ne (by rw [p2, a2]; nofun)⟩
    rintro x (rfl | rfl | e)
    · exact ⟨ne (by rw [s1, p1]; nofun), ne (by rw [s1, p2]; nofun), ne (by rw [s1, a1]; nofun), ne (by rw [s1, a2]; nofun)⟩
    · exact ⟨ne (by rw [s2, p1]; nofun), ne (by rw [s2, p2]; nofun), ne (by rw [s2, a1]; nofun), ne (by rw [s2, a2]; nofun)⟩
    · have t := s3 x e
      exact ⟨ne (by rw [t, p1]; nofun), ne (by rw [t, p2]; nofun), ne (by rw [t, a1]; nofun), ne (by rw [t, a2]; nofun)⟩
  have SY : Bp.Sy 0 w σ A.p A.a m pb ab H.c.b (H.c.b * 64) v S H.f H.xs := ⟨hS, FI, hP, q.good, hA, q.len, AP, Nat.zero_le _, fun _ _ => Nat.zero_le _⟩
  refine (Bp.free_space SY hl).mono ?_
  rintro e w' ⟨rfl, m', _, Y, C⟩
  have F : Fr (tfr σ) w w' γ γ := Fr.chg C (by
    rintro x hx (rfl | rfl)
    · exact .inl s1
    · exact .inr p2)
  have nt : ∀ t, t ≠ .sb σ → t ≠ .pr → ¬ tfr σ t := by
    rintro t h1 h2 (e | e)
    · exact h1 e
    · exact h2 e
  refine ⟨rfl, F, {
    box := F.at_ q.box (by rw [q.tag]; exact nt _ nofun nofun)
    tag := q.tag
    gl := q.gl.fr F (nt _ nofun nofun)
    ok := q.ok
    pool := ⟨pb, Y.pool, p1, p2⟩
    good := Y.good
    zero := hz
    ar := ⟨ab, Y.arena, a1, a2⟩
    len := q.len
    word := q.word
    row := q.row.fr F (nt _ nofun nofun) (nt _ nofun nofun)
    sps := fun g s hg hs => (q.sps g s hg hs).fr F (nt _ (by simpa using ap g s hg hs) nofun) (nt _ nofun nofun) (nt _ nofun nofun)
    inj := q.inj
    fit := q.fit
    wh := q.wh.fr F (by rw [q.whT]; exact nt _ nofun nofun)
    whT := q.whT
    li := q.li.fr F (nt _ nofun nofun) (nt _ nofun nofun) (nt _ nofun nofun)
    dom := q.dom }⟩
end
/-- What is left behind spaces that are freed. -/
def frN (N : Nat) (f : Nat → Int) (l : List Bp.S0) : Nat → Int := l.foldl (fun f S => Bp.frees N f S.l) f
theorem frN_succ (N : Nat) (f : Nat → Int) (l : List Bp.S0) (j : Nat) (hj : j < l.length) : frN N f (l.take (j + 1)) = Bp.frees N (frN N f (l.take j)) (l.getD j Bp.S0.none).l := by
  unfold frN
  rw [List.take_succ_eq_append_getElem hj, List.foldl_append, List.getD_eq_getElem?_getD, List.getElem?_eq_getElem hj]
  rfl
/-- The lists behind a round of Finish over these closures. -/
def enS (H : Hs) (l : List Int) : Hs := l.foldl (fun H x => { H with L := enL H x }) H
theorem enS_succ (H : Hs) (l : List Int) (j : Nat) (hj : j < l.length) : enS H (l.take (j + 1)) = { enS H (l.take j) with L := enL (enS H (l.take j)) l[j] } := by
  unfold enS
  rw [List.take_succ_eq_append_getElem hj, List.foldl_append]
  rfl
end Go.Proofs.YtbdoekffadmejaaGreatDoor
