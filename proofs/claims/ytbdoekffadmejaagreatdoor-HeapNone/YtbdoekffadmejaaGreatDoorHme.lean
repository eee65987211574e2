/- Package heap: something is laid in a space; room. -/
import Derived.Test.YtbdoekffadmejaaGreatDoorHmd
namespace Go.Proofs.YtbdoekffadmejaaGreatDoor
open Go.RowKit
set_option linter.unusedVariables false
set_option linter.unusedSimpArgs false
set_option maxRecDepth 100000

def upd2 {α : Type} (f : Nat → Nat → α) (g s : Nat) (v : α) : Nat → Nat → α := fun g' s' => if g' = g ∧ s' = s then v else f g' s'
theorem upd2_same {α : Type} (f : Nat → Nat → α) (g s : Nat) (v : α) : upd2 f g s v g s = v := by simp [upd2]
theorem upd2_ne {α : Type} (f : Nat → Nat → α) {g s g' s' : Nat} (v : α) (h : ¬ (g' = g ∧ s' = s)) : upd2 f g s v g' s' = f g' s' := by simp [upd2, h]
/-- What room leaves: the pool's row, the words, the space. -/
def Hs.laid (H : Hs) (g s : Nat) (n : Int) : Hs :=
  { H with f := Bp.layF H.f H.c.b (H.c.b * 64) (H.sp g s).nx n, xs := Bp.layW H.f H.c.b (H.c.b * 64) (H.sp g s).nx n H.xs, sp := upd2 H.sp g s (Bp.layS H.f H.c.b (H.c.b * 64) (H.sp g s) n) }
def Hs.layA (H : Hs) (g s : Nat) (n : Int) : Int := Bp.layA H.f H.c.b (H.c.b * 64) (H.sp g s).nx n
def Hs.layE (H : Hs) (g s : Nat) (n : Int) : Int := Bp.layE H.f H.c.b (H.c.b * 64) (H.sp g s).nx n
def Tl (σ : Nat) (t : Tg) : Prop := t = .sb σ ∨ t = .sm σ ∨ t = .sr σ ∨ t = .pr ∨ t = .ar
theorem splice_in {xs ys : List Int} {o : Nat} (h : ∀ x ∈ xs, 0 ≤ x ∧ x ≤ 18446744073709551615) (k : ∀ x ∈ ys, 0 ≤ x ∧ x ≤ 18446744073709551615) : ∀ x ∈ splice xs o ys, 0 ≤ x ∧ x ≤ 18446744073709551615 := by
  intro x hx
  unfold splice at hx
  simp only [List.mem_append] at hx
  rcases hx with hx | hx | hx
  · exact h x (List.mem_of_mem_take hx)
  · exact k x hx
  · exact h x (List.mem_of_mem_drop hx)
theorem layW_in {f : Nat → Int} {N M nx : Nat} {n : Int} {xs : List Int} (h : ∀ x ∈ xs, 0 ≤ x ∧ x ≤ 18446744073709551615) : ∀ x ∈ Bp.layW f N M nx n xs, 0 ≤ x ∧ x ≤ 18446744073709551615 := by
  unfold Bp.layW
  split
  · split
    · exact h
    · refine splice_in h ?_
      intro x hx
      have := List.eq_of_mem_replicate hx
      omega
  · exact h
theorem layF_zero {f : Nat → Int} {N M nx : Nat} {n : Int} (z : f 0 ≠ -1) : Bp.layF f N M nx n 0 ≠ -1 := by
  unfold Bp.layF
  split
  · cases hr : Bp.room f N M nx n.toNat with
    | none => exact z
    | some x =>
      unfold Bp.room at hr
      split at hr
      · simp only [Option.some.injEq] at hr; subst hr; exact z
      · split at hr
        · cases hr
        · rename_i s hs
          split at hr
          · cases hr
          · simp only [Option.some.injEq] at hr
            subst hr
            obtain ⟨r1, r2⟩ := Bp.fit_some hs
            obtain ⟨r3, r4, r5⟩ := Bp.run_mem r1
            simp only
            rw [Bp.mark_out]
            · exact z
            · intro q
              have e : s.1 = 0 := by omega
              exact z (r5 0 (by omega) (by omega))
  · exact z
theorem lay_pos {f : Nat → Int} {N M nx : Nat} {n : Int} (z : f 0 ≠ -1) (hM : Bp.blk nx * 64 ≤ M) (e : Bp.layE f N M nx n = 0) : 1 ≤ Bp.layA f N M nx n ∧ Bp.layA f N M nx n + n ≤ M ∧ 1 ≤ n ∧ n ≤ 4096 := by
  unfold Bp.layE at e
  unfold Bp.layA
  split at e
  · rename_i hn
    rw [if_pos hn]
    split at e
    · omega
    · rename_i x hr
      have ri := Bp.room_in hr hM
      refine ⟨?_, by omega, hn.1, hn.2⟩
      unfold Bp.room at hr
      split at hr
      · simp only [Option.some.injEq] at hr; subst hr
        simp only
        have : Bp.lft nx = 0 → False := fun q => by rename_i hl; omega
        have : nx ≠ 0 := fun q => this (by rw [q]; rfl)
        omega
      · split at hr
        · cases hr
        · rename_i s hs
          split at hr
          · cases hr
          · simp only [Option.some.injEq] at hr
            subst hr
            obtain ⟨r1, r2⟩ := Bp.fit_some hs
            obtain ⟨r3, r4, r5⟩ := Bp.run_mem r1
            have : s.1 ≠ 0 := fun q => z (by have := r5 s.1 (Nat.le_refl _) (by omega); rw [q] at this; exact this)
            simp only
            omega
  · omega
section
variable {w : World} {γ : Nat → Tg} {h : Nat} {k : Value} {A : Ad} {H : Hs}
theorem lay_hm (q : Hm w γ h k A H) {g s : Nat} (hg : g < H.c.g) (hs : s < H.c.n g) (hl : (H.sp g s).l.length ≤ 1000) (n : Int) :
    Calls Tryz.prog 119 #[pt (A.σ g s), .int .i64 n] w fun e w' => e = .returned (.tuple #[.int .i64 (H.layA g s n), .int .i64 (H.layE g s n)]) ∧
      ∃ γ', Fr (Tl (A.σ g s)) w w' γ γ' ∧ Hm w' γ' h k A (H.laid g s n) := by
  obtain ⟨m, v, hS, s1, s2, s3⟩ := q.sps g s hg hs
  obtain ⟨pb, hP, p1, p2⟩ := q.pool
  obtain ⟨ab, hA, a1, a2⟩ := q.ar
  have ne : ∀ {x y : Nat}, γ x ≠ γ y → x ≠ y := fun e q => e (by rw [q])
  have AP : Bp.Ap (A.σ g s) m v A.p pb A.a ab := by
    refine ⟨?_, ne (by rw [p1, a1]; nofun), ne (by rw [p1, a2]; nofun), ne (by rw [p2, a1]; nofun), ne (by rw [p2, a2]; nofun)⟩
    rintro x (rfl | rfl | e)
    · exact ⟨ne (by rw [s1, p1]; nofun), ne (by rw [s1, p2]; nofun), ne (by rw [s1, a1]; nofun), ne (by rw [s1, a2]; nofun)⟩
    · exact ⟨ne (by rw [s2, p1]; nofun), ne (by rw [s2, p2]; nofun), ne (by rw [s2, a1]; nofun), ne (by rw [s2, a2]; nofun)⟩
    · have t := s3 x e
      exact ⟨ne (by rw [t, p1]; nofun), ne (by rw [t, p2]; nofun), ne (by rw [t, a1]; nofun), ne (by rw [t, a2]; nofun)⟩
  have FI := q.fit g s hg hs
  have LA := Bp.lay_any hS (q.len.symm ▸ FI) hl hP q.good hA AP n
  rw [q.len] at LA
  refine LA.mono ?_
  rintro e w' ⟨rfl, v', L⟩
  refine ⟨rfl, ?_⟩
  let γ' : Nat → Tg := fun x => if w.heap.size ≤ x ∧ v'.ownBlock = some x then .sr (A.σ g s) else γ x
  have old : ∀ x, x < w.heap.size → γ' x = γ x := fun x hx => if_neg (fun e => by omega)
  have F0 : Fr (Tl (A.σ g s)) w w' γ γ := Fr.chg L.chg (by
    rintro x hx ((rfl | rfl | e) | rfl | rfl)
    · exact .inl s1
    · exact .inr (.inl s2)
    · exact .inr (.inr (.inl (s3 x e)))
    · exact .inr (.inr (.inr (.inl p2)))
    · exact .inr (.inr (.inr (.inr a2))))
  have F : Fr (Tl (A.σ g s)) w w' γ γ' := F0.retag old
  have nt : ∀ t, t ≠ .sb (A.σ g s) → t ≠ .sm (A.σ g s) → t ≠ .sr (A.σ g s) → t ≠ .pr → t ≠ .ar → ¬ Tl (A.σ g s) t := by
    rintro t h1 h2 h3 h4 h5 (e | e | e | e | e)
    · exact h1 e
    · exact h2 e
    · exact h3 e
    · exact h4 e
    · exact h5 e
  have far : ∀ g' s', g' < H.c.g → s' < H.c.n g' → ¬ (g' = g ∧ s' = s) → A.σ g' s' ≠ A.σ g s := fun g' s' h1 h2 h3 e => h3 (q.inj g' s' g s h1 h2 hg hs e)
  refine ⟨γ', F, {
    box := F.at_ q.box (by rw [q.tag]; exact nt _ nofun nofun nofun nofun nofun)
    tag := F.tg q.lt q.tag
    gl := q.gl.fr F (nt _ nofun nofun nofun nofun nofun)
    ok := q.ok
    pool := ⟨pb, L.pool, (old _ hP.lt.1).trans p1, (old _ hP.lt.2).trans p2⟩
    good := Bp.good_lay q.good n
    zero := layF_zero q.zero
    ar := ⟨ab, L.arena, (old _ hA.lt.1).trans a1, (old _ hA.lt.2).trans a2⟩
    len := Bp.len_lay q.len FI.nx
    word := layW_in q.word
    row := q.row.fr F (nt _ nofun nofun nofun nofun nofun) (nt _ nofun nofun nofun nofun nofun)
    sps := ?_
    inj := q.inj
    fit := ?_
    wh := q.wh.fr F (by rw [q.whT]; exact nt _ nofun nofun nofun nofun nofun)
    whT := F.tg q.wh.lt q.whT
    li := q.li.fr F (nt _ nofun nofun nofun nofun nofun) (nt _ nofun nofun nofun nofun nofun) (nt _ nofun nofun nofun nofun nofun)
    dom := q.dom }⟩
  · intro g' s' hg' hs'
    by_cases e : g' = g ∧ s' = s
    · obtain ⟨rfl, rfl⟩ := e
      refine ⟨m, v', ?_, (old _ (hS.lt _ (.inl rfl))).trans s1, (old _ (hS.lt _ (.inr (.inl rfl)))).trans s2, fun x e => ?_⟩
      · simp only [Hs.laid, upd2_same]; exact L.sp
      · by_cases hx : w.heap.size ≤ x
        · exact if_pos ⟨hx, e⟩
        · rcases L.old x e with r | r
          · exact (old x (by omega)).trans (s3 x r)
          · exact absurd r hx
    · have fa := far g' s' hg' hs' e
      simp only [Hs.laid, upd2_ne _ _ e]
      exact (q.sps g' s' hg' hs').fr F (nt _ (by simpa using fa) nofun nofun nofun nofun) (nt _ nofun (by simpa using fa) nofun nofun nofun) (nt _ nofun nofun (by simpa using fa) nofun nofun)
  · intro g' s' hg' hs'
    by_cases e : g' = g ∧ s' = s
    · obtain ⟨rfl, rfl⟩ := e
      simp only [Hs.laid, upd2_same]; exact Bp.fit_lay FI n
    · simp only [Hs.laid, upd2_ne _ _ e]; exact q.fit g' s' hg' hs'
/-- Where room says a closure stands. -/
def Hs.placed (H : Hs) (g s : Nat) (n : Int) : Hs := { H.laid g s n with wh := fun y => if y = H.layA g s n then some (g, s) else H.wh y }
def Hs.roomed (H : Hs) (g s : Nat) (n : Int) : Hs := if H.layE g s n = 0 then H.placed g s n else H.laid g s n
def Hs.roomA (H : Hs) (g s : Nat) (n : Int) : Int := if H.layE g s n = 0 then H.layA g s n else 0
def Tm (σ : Nat) (t : Tg) : Prop := Tl σ t ∨ t = .wm
abbrev Ad.more (A : Ad) : Ad := { A with wn := A.wn + 1 }
theorem put_hm {w' : World} {γ0 : Nat → Tg} (q : Hm w γ h k A H) (x : Int) (v : Nat × Nat) {f : Int → Option (Nat × Nat)} (hx : 1 ≤ x ∧ x < H.c.b * 64) (hv : v.1 < H.c.g ∧ v.2 < H.c.n v.1) (hM : WM w' A.wm (A.wn + 1) (fun y => if y = x then some v else H.wh y)) (G : w.grownBy w' (some A.wm)) :
    Hm w' γ h k A.more { H with wh := fun y => if y = x then some v else H.wh y } := by
  have F : Fr (fun t => t = .wm) w w' γ γ := Fr.one G q.whT
  exact {
    box := F.at_ q.box (by rw [q.tag]; nofun)
    tag := q.tag
    gl := q.gl.fr F nofun
    ok := q.ok
    pool := q.pool.fr F nofun nofun
    good := q.good
    zero := q.zero
    ar := q.ar.fr F nofun nofun
    len := q.len
    word := q.word
    row := by have r := q.row.fr F nofun nofun; exact ⟨r.out, r.outT, r.inn, r.innT⟩
    sps := fun g s hg hs => (q.sps g s hg hs).fr F nofun nofun nofun
    inj := q.inj
    fit := q.fit
    wh := hM
    whT := q.whT
    li := q.li.fr F nofun nofun nofun
    dom := fun y g s e => by
      simp only at e
      split at e
      · simp only [Option.some.injEq] at e; subst e
        rename_i e2; subst e2
        exact ⟨hx.1, hx.2, hv.1, hv.2⟩
      · exact q.dom y g s e }
end
end Go.Proofs.YtbdoekffadmejaaGreatDoor
