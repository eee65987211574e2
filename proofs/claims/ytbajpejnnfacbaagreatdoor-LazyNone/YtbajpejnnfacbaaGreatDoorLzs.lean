/- Package lazy: a run as it lies in memory; what is done next. -/
import Derived.Deep.AppendLies
import Derived.Test.YtbajpejnnfacbaaGreatDoorLxe
import Derived.Deep.RegionLaw
namespace Go.Proofs.YtbajpejnnfacbaaGreatDoor.Lz
open Go.RowKit
set_option linter.unusedVariables false
set_option linter.unusedSimpArgs false


/-- what a machine has besides -/
structure Mv where
  cons : Value
  binds : Value
  glob : Value
  hand : Value
  last : Int
abbrev rC (mb fuel : Nat) (nx : Int) (vx vn vo : Value) (wr : Int) (vw : Value) (sh : Int) : Array Value := #[ptr mb, .int .i64 fuel, .int .i64 nx, vx, vn, vo, .int .i64 wr, vw, .int .i64 sh]
abbrev mC (mv : Mv) (vo : Value) (steps : Nat) : Array Value := #[mv.cons, mv.binds, mv.glob, mv.hand, .int .i64 mv.last, vo, .int .i64 steps, .bool false]
def intC (l : List Int) : List Value := l.map fun n => .int .i64 n
abbrev fC (wh : Int) (o wi x nm : Value) (pl : Int) : List Value := [.int .i64 wh, o, wi, x, nm, .int .i64 pl]
/-- a primitive's list of things -/
def pPrw (G : Gm) (j n : Nat) (v : Value) : Prop := ∃ g cap, v = .slice (some ⟨g, 0, none⟩) n cap ∧ n ≤ cap ∧ G g = some (.prow j)
def fmC (G : Gm) : Fm → List Value → Prop
  | .same t, c => ∃ o, pT G t o ∧ c = fC 0 o nils nilp nilp 0
  | .things l, c => ∃ r, pRow G l r ∧ c = fC 1 nilp r nilp nilp 0
  | .arms al o e, c => ∃ x nm kid, pExp G (.cs kid al o) x ∧ pEnv G e nm ∧ c = fC 2 nilp nils x nm 0
  | .prim k j i, c => ∃ r x l n, pExp G (.prim k l) x ∧ pPrw G j n r ∧ (n : Int) = tA k ∧ c = fC 3 nilp r x nilp i
def fmsC (G : Gm) : List Fm → List Value → Prop
  | [], c => c = []
  | f :: r, c => ∃ c1 c2, c = c1 ++ c2 ∧ fmC G f c1 ∧ fmsC G r c2
def mdC (G : Gm) : Md → Int → Value → Value → Value → Int → Prop
  | .ev x e, nx, vx, vn, vo, wr => nx = 0 ∧ pExp G x vx ∧ pEnv G e vn
  | .kn t, nx, vx, vn, vo, wr => nx = 1 ∧ pT G t vo
  | .tl t, nx, vx, vn, vo, wr => nx = 2 ∧ pT G t vo
  | .rest t, nx, vx, vn, vo, wr => nx = 3 ∧ pT G t vo
  | .fail e, nx, vx, vn, vo, wr => nx = 4 ∧ wr = e
  | .starve, nx, vx, vn, vo, wr => nx = 5
theorem fmC_len {G : Gm} : ∀ {f : Fm} {c : List Value}, fmC G f c → c.length = 6
  | .same _, _, ⟨_, _, e⟩ => by rw [e]; rfl
  | .things _, _, ⟨_, _, e⟩ => by rw [e]; rfl
  | .arms _ _ _, _, ⟨_, _, _, _, _, e⟩ => by rw [e]; rfl
  | .prim _ _ _, _, ⟨_, _, _, _, _, _, _, e⟩ => by rw [e]; rfl
theorem fmsC_len {G : Gm} : ∀ {l : List Fm} {c : List Value}, fmsC G l c → c.length = l.length * 6
  | [], _, h => by rw [show _ = [] from h]; rfl
  | f :: r, _, ⟨c1, c2, e, h1, h2⟩ => by rw [e, List.length_append, fmC_len h1, fmsC_len h2, List.length_cons]; omega
theorem fmsC_snoc {G : Gm} : ∀ {l : List Fm} {c : List Value} {f : Fm} {d : List Value}, fmsC G l c → fmC G f d → fmsC G (l ++ [f]) (c ++ d)
  | [], _, f, d, h, k => by rw [show _ = [] from h]; exact ⟨d, [], by simp, k, rfl⟩
  | g :: r, _, f, d, ⟨c1, c2, e, h1, h2⟩, k => ⟨c1, c2 ++ d, by rw [e, List.append_assoc], h1, fmsC_snoc h2 k⟩
theorem fmsC_last {G : Gm} : ∀ {l : List Fm} {c : List Value} {f : Fm}, fmsC G (l ++ [f]) c → ∃ c1 d, c = c1 ++ d ∧ fmsC G l c1 ∧ fmC G f d
  | [], c, f, ⟨c1, c2, e, h1, h2⟩ => ⟨[], c1, by rw [e, show c2 = [] from h2]; simp, rfl, h1⟩
  | g :: r, c, f, ⟨c1, c2, e, h1, h2⟩ => by
    obtain ⟨a, d, e2, k1, k2⟩ := fmsC_last h2
    exact ⟨c1 ++ a, d, by rw [e, e2, List.append_assoc], ⟨c1, a, rfl, h1, k1⟩, k2⟩
section
variable {G G' : Gm} (h : Le G G')
include h
theorem pPrw.le {j n : Nat} {v : Value} (k : pPrw G j n v) : pPrw G' j n v := by obtain ⟨g, cap, e, a, k⟩ := k; exact ⟨g, cap, e, a, h _ _ k⟩
theorem fmC.le : ∀ {f : Fm} {c : List Value}, fmC G f c → fmC G' f c
  | .same _, _, ⟨o, a, e⟩ => ⟨o, pT.le h a, e⟩
  | .things _, _, ⟨o, a, e⟩ => ⟨o, pRow.le h a, e⟩
  | .arms _ _ _, _, ⟨x, nm, k, a, b, e⟩ => ⟨x, nm, k, pExp.le h a, pEnv.le h b, e⟩
  | .prim _ _ _, _, ⟨r, x, l, n, a, b, e, f⟩ => ⟨r, x, l, n, pExp.le h a, pPrw.le h b, e, f⟩
theorem fmsC.le : ∀ {l : List Fm} {c : List Value}, fmsC G l c → fmsC G' l c
  | [], _, k => k
  | f :: r, _, ⟨c1, c2, e, h1, h2⟩ => ⟨c1, c2, e, fmC.le h h1, fmsC.le h2⟩
theorem mdC.le {nx : Int} {vx vn vo : Value} {wr : Int} : ∀ {m : Md}, mdC G m nx vx vn vo wr → mdC G' m nx vx vn vo wr
  | .ev _ _, ⟨a, b, c⟩ => ⟨a, pExp.le h b, pEnv.le h c⟩
  | .kn _, ⟨a, b⟩ => ⟨a, pT.le h b⟩
  | .tl _, ⟨a, b⟩ => ⟨a, pT.le h b⟩
  | .rest _, ⟨a, b⟩ => ⟨a, pT.le h b⟩
  | .fail _, k => k
  | .starve, k => k
end
/-- a slice of one's own, whose block has that tag -/
structure Own (w : World) (G : Gm) (k : Nat) (e : TypeId) (size : Nat) (v : Value) (n : Nat) (xs : List Value) : Prop where
  row : w.ownsRow 0 e size v n xs
  tag : ∀ g, v.ownBlock = some g → G g = some (.own k)
theorem Own.kept {w w' : World} {G G' : Gm} {k : Nat} {e : TypeId} {size : Nat} {v : Value} {n : Nat} {xs : List Value} (h : Own w G k e size v n xs) (le : Le G G') (hb : ∀ g, G g = some (.own k) → w'.heap[g]? = w.heap[g]?) : Own w' G' k e size v n xs := by
  refine ⟨⟨h.row.1, ?_⟩, fun g hg => le _ _ (h.tag g hg)⟩
  rcases h.row.2 with q | ⟨g, cap, cur, rfl, a, b, r⟩
  · exact .inl q
  · exact .inr ⟨g, cap, cur, rfl, a, (hb g (h.tag g rfl)).trans b, r⟩
structure Run (w : World) (G : Gm) (rb mb : Nat) (mv : Mv) (s : St) (sh : Int) : Prop where
  rep : Rep w G s.th s.rows
  tab : Table w
  g0 : G 0 = none
  rt : G rb = some (.own 0)
  mt : G mb = some (.own 1)
  r : ∃ nx vx vn vo wr vw cs, Bx w rb (rC mb s.fuel nx vx vn vo wr vw sh) 101 ∧ mdC G s.md nx vx vn vo wr ∧ Own w G 2 160 6 vw s.ws.length cs ∧ fmsC G s.ws.reverse cs
  m : ∃ vo, Bx w mb (mC mv vo s.steps) 74 ∧ Own w G 3 2 1 vo s.out.length (intC s.out)
section
variable {w w' : World} {G G' : Gm} {rb mb : Nat} {mv : Mv} {s : St} {sh : Int}
theorem Run.ne (h : Run w G rb mb mv s sh) : rb ≠ mb := fun e => by have a := h.rt; rw [e, h.mt] at a; cases a
theorem Run.pos (h : Run w G rb mb mv s sh) : 0 < w.heap.size := World.block_lt_of_cell? _ _ (h.tab.n 0 (by decide))
theorem Run.rlt (h : Run w G rb mb mv s sh) : rb < w.heap.size := h.rep.lt h.rt
theorem Run.mlt (h : Run w G rb mb mv s sh) : mb < w.heap.size := h.rep.lt h.mt
theorem Table.of_block {w w' : World} (h : Table w) (hs : 0 < w.heap.size) (e : w'.heap[0]? = w.heap[0]?) : Table w' := by
  have k : ∀ o, w'.cell? ⟨0, o, none⟩ = w.cell? ⟨0, o, none⟩ := fun o => World.cell?_of_block e
  obtain ⟨t, fr, hf⟩ := h.blk
  exact ⟨⟨t, fr, e.trans hf⟩, fun j hj => (k _).trans (h.n j hj), fun j hj => (k _).trans (h.a j hj), fun j hj => (k _).trans (h.b j hj), fun j hj => (k _).trans (h.c j hj), fun j hj => (k _).trans (h.d j hj)⟩
/-- things have turned, nothing of the run's own -/
theorem Run.next (h : Run w G rb mb mv s sh) (F : Fx G G' w w') (ho : ∀ b k, G b = some (.own k) → w'.heap[b]? = w.heap[b]?) {th' : List T} {rows' : List (List Nat)} (R : Rep w' G' th' rows') : Run w' G' rb mb mv { s with th := th', rows := rows' } sh := by
  obtain ⟨nx, vx, vn, vo, wr, vw, cs, a, b, c, d⟩ := h.r
  obtain ⟨v2, m1, m2⟩ := h.m
  exact ⟨R, Table.of_block h.tab h.pos (F.block 0 h.pos (by rw [h.g0]; trivial)), F.new 0 h.pos h.g0, F.le _ _ h.rt, F.le _ _ h.mt,
    ⟨nx, vx, vn, vo, wr, vw, cs, (ho rb 0 h.rt).trans a, mdC.le F.le b, c.kept F.le (fun g hg => ho g _ hg), fmsC.le F.le d⟩,
    ⟨v2, (ho mb 1 h.mt).trans m1, m2.kept F.le (fun g hg => ho g _ hg)⟩⟩
theorem Run.below (h : Run w G rb mb mv s sh) (k : Below w.heap.size w w') : Run w' G rb mb mv s sh :=
  h.next (Fx.of_below k) (fun b j hb => k.block b (h.rep.lt hb)) (h.rep.below k)
/-- the run's block has turned, and nothing else -/
theorem Run.turn (h : Run w G rb mb mv s sh) {f : Nat} {nx : Int} {vx vn vo : Value} {wr : Int} {vw : Value} {sh' : Int} {ws' : List Fm} {md' : Md} {cs : List Value} (blk : Bx w' rb (rC mb f nx vx vn vo wr vw sh') 101) (os : w'.os = w.os) (tape : w'.tape = w.tape) (output : w'.output = w.output) (size : w.heap.size ≤ w'.heap.size)
    (oth : ∀ i, i < w.heap.size → i ≠ rb → w'.heap[i]? = w.heap[i]?) (hm : mdC G md' nx vx vn vo wr) (hw : Own w' G 2 160 6 vw ws'.length cs) (hc : fmsC G ws'.reverse cs) : Run w' G rb mb mv { s with fuel := f, ws := ws', md := md' } sh' ∧ Fx G G w w' := by
  have n0 : ∀ b ty, G b = some ty → (∀ k, ty = .own k → k ≠ 0) → w'.heap[b]? = w.heap[b]? := fun b ty hb hk => oth b (h.rep.lt hb) (fun e => by rw [e, h.rt] at hb; cases hb; exact hk 0 rfl rfl)
  obtain ⟨v2, m1, m2⟩ := h.m
  refine ⟨⟨?_, Table.of_block h.tab h.pos (oth 0 h.pos (fun e => by have := h.rt; rw [← e, h.g0] at this; cases this)), h.g0, h.rt, h.mt, ⟨nx, vx, vn, vo, wr, vw, cs, blk, hm, hw, hc⟩, ⟨v2, (n0 mb _ h.mt (fun k e => by cases e; decide)).trans m1, m2.kept (Le.refl G) (fun g hg => n0 g _ hg (fun k e => by cases e; decide))⟩⟩, Fx.of_own h.rt (by simp [fixd]) os tape output size oth⟩
  refine ⟨fun b ty hb => ?_, h.rep.has, h.rep.one, h.rep.oner⟩
  by_cases q : ty = .own 0
  · subst q; exact Nat.lt_of_lt_of_le (h.rep.lt hb) size
  · exact (h.rep.cont b ty hb).kept size (Le.refl G) ⟨n0 b ty hb (fun k e z => q (by rw [e, z])), fun i hi => ⟨rfl, fun m hm => n0 m _ hm (fun k e => by cases e)⟩, fun j hj => rfl⟩
/-- what a call of a run's leaves -/
def Out (w : World) (G : Gm) (rb mb : Nat) (mv : Mv) (s : St) (sh : Int) (e : Ending) (w' : World) : Prop := e = done ∧ ∃ G', Fx G G' w w' ∧ Run w' G' rb mb mv s sh
theorem Out.from {w0 : World} {G0 : Gm} {e : Ending} (F : Fx G0 G w0 w) (h : Out w G rb mb mv s sh e w') : Out w0 G0 rb mb mv s sh e w' := by
  obtain ⟨a, G', F', R⟩ := h
  exact ⟨a, G', F.trans F', R⟩
theorem knows_any (h : Run w G rb mb mv s sh) {t : Nat} {v : Value} (hv : pT G t v) : Calls Tryz.prog 49 #[ptr rb, v] w (Out w G rb mb mv { s with md := .kn t } sh) := by
  obtain ⟨nx, vx, vn, vo, wr, vw, cs, a, b, c, d⟩ := h.r
  have H := Hid.mk (And.intro h (And.intro a (And.intro c (And.intro d hv))))
  obtain ⟨bv, rfl, _⟩ := hv
  have c2 := a.cell 2
  have c5 := a.cell 5
  have z2 : w.frozen? ⟨rb, 2, none⟩ = false := Joins.unfrozen_of_block a 2
  have z5 : w.frozen? ⟨rb, 5, none⟩ = false := Joins.unfrozen_of_block a 5
  clear h a b c d
  go_enter Tryz.func49, Tryz.ntmps49
  go_wp2
  go_end0
  obtain ⟨h, a, c, d, hv⟩ := H.out
  have b1 : (w.setCell ⟨rb, 2, none⟩ (.int .i64 1)).heap[rb]? = _ := Joins.block_setCell (i := 2) a (.int .i64 1)
  have b2 : ((w.setCell ⟨rb, 2, none⟩ (.int .i64 1)).setCell ⟨rb, 5, none⟩ (ptr bv)).heap[rb]? = _ := Joins.block_setCell (i := 5) b1 (ptr bv)
  have oth : ∀ i, i ≠ rb → ((w.setCell ⟨rb, 2, none⟩ (.int .i64 1)).setCell ⟨rb, 5, none⟩ (ptr bv)).heap[i]? = w.heap[i]? := fun i hi => (setCell_block _ _ _ _ hi).trans (setCell_block _ _ _ _ hi)
  obtain ⟨R, F⟩ := h.turn (w' := (w.setCell ⟨rb, 2, none⟩ (.int .i64 1)).setCell ⟨rb, 5, none⟩ (ptr bv)) (md' := .kn t) (ws' := s.ws) b2 rfl rfl rfl (by simp [World.setCell]) (fun i _ hi => oth i hi) ⟨rfl, hv⟩ (c.kept (Le.refl G) (fun g hg => oth g (fun e => by rw [e, h.rt] at hg; cases hg))) d
  exact ⟨rfl, G, F, R⟩
theorem tells_any (h : Run w G rb mb mv s sh) {t : Nat} {v : Value} (hv : pT G t v) : Calls Tryz.prog 67 #[ptr rb, v] w (Out w G rb mb mv { s with md := .tl t } sh) := by
  obtain ⟨nx, vx, vn, vo, wr, vw, cs, a, b, c, d⟩ := h.r
  have H := Hid.mk (And.intro h (And.intro a (And.intro c (And.intro d hv))))
  obtain ⟨bv, rfl, _⟩ := hv
  have c2 := a.cell 2
  have c5 := a.cell 5
  have z2 : w.frozen? ⟨rb, 2, none⟩ = false := Joins.unfrozen_of_block a 2
  have z5 : w.frozen? ⟨rb, 5, none⟩ = false := Joins.unfrozen_of_block a 5
  clear h a b c d
  go_enter Tryz.func67, Tryz.ntmps67
  go_wp2
  go_end0
  obtain ⟨h, a, c, d, hv⟩ := H.out
  have b1 : (w.setCell ⟨rb, 2, none⟩ (.int .i64 2)).heap[rb]? = _ := Joins.block_setCell (i := 2) a (.int .i64 2)
  have b2 : ((w.setCell ⟨rb, 2, none⟩ (.int .i64 2)).setCell ⟨rb, 5, none⟩ (ptr bv)).heap[rb]? = _ := Joins.block_setCell (i := 5) b1 (ptr bv)
  have oth : ∀ i, i ≠ rb → ((w.setCell ⟨rb, 2, none⟩ (.int .i64 2)).setCell ⟨rb, 5, none⟩ (ptr bv)).heap[i]? = w.heap[i]? := fun i hi => (setCell_block _ _ _ _ hi).trans (setCell_block _ _ _ _ hi)
  obtain ⟨R, F⟩ := h.turn (w' := (w.setCell ⟨rb, 2, none⟩ (.int .i64 2)).setCell ⟨rb, 5, none⟩ (ptr bv)) (md' := .tl t) (ws' := s.ws) b2 rfl rfl rfl (by simp [World.setCell]) (fun i _ hi => oth i hi) ⟨rfl, hv⟩ (c.kept (Le.refl G) (fun g hg => oth g (fun e => by rw [e, h.rt] at hg; cases hg))) d
  exact ⟨rfl, G, F, R⟩
theorem evaluates_any (h : Run w G rb mb mv s sh) {x : X} {e : Env} {ux un : Value} (hx : pExp G x ux) (hn : pEnv G e un) : Calls Tryz.prog 71 #[ptr rb, ux, un] w (Out w G rb mb mv { s with md := .ev x e } sh) := by
  obtain ⟨nx, vx, vn, vo, wr, vw, cs, a, b, c, d⟩ := h.r
  have H := Hid.mk (And.intro h (And.intro a (And.intro c (And.intro d (And.intro hx hn)))))
  obtain ⟨bx, rfl, _⟩ := hx
  obtain ⟨bn, rfl, _⟩ := hn
  have c2 := a.cell 2
  have c3 := a.cell 3
  have c4 := a.cell 4
  have z2 : w.frozen? ⟨rb, 2, none⟩ = false := Joins.unfrozen_of_block a 2
  have z3 : w.frozen? ⟨rb, 3, none⟩ = false := Joins.unfrozen_of_block a 3
  have z4 : w.frozen? ⟨rb, 4, none⟩ = false := Joins.unfrozen_of_block a 4
  clear h a b c d
  go_enter Tryz.func71, Tryz.ntmps71
  go_wp2
  go_end0
  obtain ⟨h, a, c, d, hx, hn⟩ := H.out
  have b1 : (w.setCell ⟨rb, 2, none⟩ (.int .i64 0)).heap[rb]? = _ := Joins.block_setCell (i := 2) a (.int .i64 0)
  have b2 : ((w.setCell ⟨rb, 2, none⟩ (.int .i64 0)).setCell ⟨rb, 3, none⟩ (ptr bx)).heap[rb]? = _ := Joins.block_setCell (i := 3) b1 (ptr bx)
  have b3 : (((w.setCell ⟨rb, 2, none⟩ (.int .i64 0)).setCell ⟨rb, 3, none⟩ (ptr bx)).setCell ⟨rb, 4, none⟩ (ptr bn)).heap[rb]? = _ := Joins.block_setCell (i := 4) b2 (ptr bn)
  have oth : ∀ i, i ≠ rb → (((w.setCell ⟨rb, 2, none⟩ (.int .i64 0)).setCell ⟨rb, 3, none⟩ (ptr bx)).setCell ⟨rb, 4, none⟩ (ptr bn)).heap[i]? = w.heap[i]? := fun i hi => (setCell_block _ _ _ _ hi).trans ((setCell_block _ _ _ _ hi).trans (setCell_block _ _ _ _ hi))
  obtain ⟨R, F⟩ := h.turn (w' := ((w.setCell ⟨rb, 2, none⟩ (.int .i64 0)).setCell ⟨rb, 3, none⟩ (ptr bx)).setCell ⟨rb, 4, none⟩ (ptr bn)) (md' := .ev x e) (ws' := s.ws) b3 rfl rfl rfl (by simp [World.setCell]) (fun i _ hi => oth i hi) ⟨rfl, hx, hn⟩ (c.kept (Le.refl G) (fun g hg => oth g (fun e => by rw [e, h.rt] at hg; cases hg))) d
  exact ⟨rfl, G, F, R⟩
end
end Go.Proofs.YtbajpejnnfacbaaGreatDoor.Lz

/- Package lazy: what waits: one more, and one less. -/
namespace Go.Proofs.YtbajpejnnfacbaaGreatDoor.Lz
open Go.RowKit
set_option linter.unusedVariables false
set_option linter.unusedSimpArgs false


theorem info160 : (Tryz.prog.info? 160).map (fun i => (i.zero, i.size, i.bytes)) = some (some (.agg #[.int .i64 0, .pointer none, .slice none 0 0, .pointer none, .pointer none, .int .i64 0]), 6, 64) := by kernel_rfl
theorem own_drew' {w : World} {base size n : Nat} {e : TypeId} {v : Value} {xs : List Value} (h : w.ownsRow base e size v n xs) : w.drew.ownsRow base e size v n xs := h.kept (row := none) ⟨rfl, rfl, rfl, Nat.le_refl _, fun _ _ _ => rfl⟩ (by cases v.ownBlock <;> simp)
theorem own_alloc' {w : World} {base size n : Nat} {e : TypeId} {v : Value} {xs : List Value} (h : w.ownsRow base e size v n xs) (o : Obj) : (w.alloc o).ownsRow base e size v n xs := h.alloc o
theorem news6 (w : World) (o : Obj) (cs : Array Value) (t : TypeId) : ∀ j x, cs.toList[j]? = some x → ((w.alloc o).alloc (.cells cs t)).cell? ((⟨w.heap.size + 1, 0, none⟩ : Addr).add j) = some x := by
  have h := heap_alloc_new (w.alloc o) (.cells cs t)
  rw [show (w.alloc o).heap.size = w.heap.size + 1 by simp] at h
  exact World.news_of_block h
theorem bal' {wz w' : World} (h : Below wz.heap.size wz w') (o : Obj) : Below wz.heap.size wz (w'.alloc o) := h.alloc h.size o
theorem below_here' {w W W1 : World} {row : Option Nat} (h : Below w.heap.size w W) (hg : W.grownBy W1 row) : Below w.heap.size w W := h
section
variable {w w' : World} {G G' : Gm} {rb mb : Nat} {mv : Mv} {s : St} {sh : Int}
theorem Rep.owned {th : List T} {rows : List (List Nat)} (h : Rep w G th rows) (hs : w.heap.size ≤ w'.heap.size) (hb : ∀ b ty, G b = some ty → (∀ k, ty ≠ .own k) → w'.heap[b]? = w.heap[b]?) : Rep w' G th rows := by
  refine ⟨fun b ty k => ?_, h.has, h.one, h.oner⟩
  by_cases q : ∃ k, ty = .own k
  · obtain ⟨j, rfl⟩ := q
    exact Nat.lt_of_lt_of_le (h.lt k) hs
  · have q' : ∀ j, ty ≠ .own j := fun j e => q ⟨j, e⟩
    exact (h.cont b ty k).kept hs (Le.refl G) ⟨hb b ty k q', fun i _ => ⟨rfl, fun m hm => hb m _ hm (fun j e => by cases e)⟩, fun j _ => rfl⟩
theorem Run.turn2 (h : Run w G rb mb mv s sh) (F : Fx G G' w w') {th' : List T} {rows' : List (List Nat)} (R : Rep w' G' th' rows') {f : Nat} {nx : Int} {vx vn vo : Value} {wr : Int} {vw : Value} {sh' : Int} {ws' : List Fm} {md' : Md} {cs : List Value} (blk : Bx w' rb (rC mb f nx vx vn vo wr vw sh') 101)
    (oth : ∀ i k, G i = some (.own k) → k = 1 ∨ k = 3 → w'.heap[i]? = w.heap[i]?) (hm : mdC G' md' nx vx vn vo wr) (hw : Own w' G' 2 160 6 vw ws'.length cs) (hc : fmsC G' ws'.reverse cs) : Run w' G' rb mb mv { s with th := th', rows := rows', fuel := f, ws := ws', md := md' } sh' := by
  obtain ⟨v2, m1, m2⟩ := h.m
  exact ⟨R, Table.of_block h.tab h.pos (F.block 0 h.pos (by rw [h.g0]; trivial)), F.new 0 h.pos h.g0, F.le _ _ h.rt, F.le _ _ h.mt, ⟨nx, vx, vn, vo, wr, vw, cs, blk, hm, hw, hc⟩, ⟨v2, (oth mb 1 h.mt (.inl rfl)).trans m1, m2.kept F.le (fun g hg => oth g 3 hg (.inr rfl))⟩⟩
theorem wait_end {W w3 : World} {nx : Int} {vx vn vo : Value} {wr : Int} {vw : Value} {cs d : List Value} {f : Fm} {q cap : Nat} (h : Run w G rb mb mv s sh) (a : Bx w rb (rC mb s.fuel nx vx vn vo wr vw sh) 101) (b : mdC G s.md nx vx vn vo wr) (c : Own w G 2 160 6 vw s.ws.length cs) (e : fmsC G s.ws.reverse cs) (hf : fmC G f d)
    (hB : Below w.heap.size w W) (hg : W.grownBy w3 vw.ownBlock) (ho : w3.ownsRow 0 160 6 (.slice (some ⟨q, 0, none⟩) (s.ws.length + 1) cap) (s.ws.length + 1) (cs ++ d)) (hat : vw.ownBlock = some q ∨ q = W.heap.size) :
    (w3.cell? ⟨rb, 7, none⟩ = some vw ∧ w3.frozen? ⟨rb, 7, none⟩ = false) ∧ Out w G rb mb mv { s with ws := f :: s.ws } sh done (w3.setCell ⟨rb, 7, none⟩ (.slice (some ⟨q, 0, none⟩) (s.ws.length + 1) cap)) := by
  have nr : some rb ≠ vw.ownBlock := fun z => by have := c.tag rb z.symm; rw [h.rt] at this; cases this
  have b3 : w3.heap[rb]? = some (.cells (rC mb s.fuel nx vx vn vo wr vw sh) 101 (0, 0)) := (hg.block rb (Nat.lt_of_lt_of_le h.rlt hB.size) nr).trans (later' a hB)
  refine ⟨⟨Joins.cell_of_block b3 7, Joins.unfrozen_of_block b3 7⟩, rfl, ?_⟩
  have oth : ∀ i, i < w.heap.size → i ≠ rb → some i ≠ vw.ownBlock → (w3.setCell ⟨rb, 7, none⟩ (.slice (some ⟨q, 0, none⟩) (s.ws.length + 1) cap)).heap[i]? = w.heap[i]? := fun i hi h1 h2 => (setCell_block _ _ _ _ h1).trans ((hg.block i (Nat.lt_of_lt_of_le hi hB.size) h2).trans (hB.block i hi))
  have sz : w.heap.size ≤ (w3.setCell ⟨rb, 7, none⟩ (.slice (some ⟨q, 0, none⟩) (s.ws.length + 1) cap)).heap.size := by have := hB.size; have := hg.size; simp [World.setCell]; omega
  have tg : ∀ i ty, G i = some ty → ty ≠ .own 2 → some i ≠ vw.ownBlock := fun i ty hi hn z => by have := c.tag i z.symm; rw [hi] at this; cases this; exact hn rfl
  have R0 : Rep (w3.setCell ⟨rb, 7, none⟩ (.slice (some ⟨q, 0, none⟩) (s.ws.length + 1) cap)) G s.th s.rows := h.rep.owned sz (fun i ty hi hk => oth i (h.rep.lt hi) (fun z => by rw [z, h.rt] at hi; cases hi; exact hk 0 rfl) (tg i ty hi (hk 2)))
  have F0 : Fx G G w (w3.setCell ⟨rb, 7, none⟩ (.slice (some ⟨q, 0, none⟩) (s.ws.length + 1) cap)) := ⟨hg.os.trans hB.os, hg.tape.trans hB.tape, hg.output.trans hB.output, sz, fun i hi k => by
    refine oth i hi (fun z => ?_) (fun z => ?_)
    · rw [z, h.rt] at k; exact absurd k (by simp [fixd])
    · have := c.tag i z.symm
      rw [this] at k
      exact absurd k (by simp [fixd]), Le.refl G, fun _ _ h => h⟩
  have qlt : q < w3.heap.size := (ho.lt q rfl).2
  have nq : q ≠ rb := by
    rcases hat with z | z
    · intro y; exact nr (by rw [z, y])
    · have := h.rlt; have := hB.size; omega
  obtain ⟨G', F, R, hq⟩ : ∃ G', Fx G G' w (w3.setCell ⟨rb, 7, none⟩ (.slice (some ⟨q, 0, none⟩) (s.ws.length + 1) cap)) ∧ Rep (w3.setCell ⟨rb, 7, none⟩ (.slice (some ⟨q, 0, none⟩) (s.ws.length + 1) cap)) G' s.th s.rows ∧ G' q = some (.own 2) := by
    rcases hat with z | z
    · exact ⟨G, F0, R0, c.tag q z⟩
    · have fr : G q = none := h.rep.free (by rw [z]; exact hB.size)
      have R1 : Rep (w3.setCell ⟨rb, 7, none⟩ (.slice (some ⟨q, 0, none⟩) (s.ws.length + 1) cap)) (Lz.tag G q (.own 2)) s.th s.rows := R0.tag fr (show q < _ by simp [World.setCell]; exact qlt) (fun i => by simp) (fun i => by simp)
      exact ⟨Lz.tag G q (.own 2), F0.more rfl rfl rfl (Nat.le_refl _) (fun _ _ => rfl) (le_tag fr _) (fun i hi k => by rw [tag_ne _ _ (by have := hB.size; omega)]; exact k), R1, tag_self _ _ _⟩
  have blk : Bx (w3.setCell ⟨rb, 7, none⟩ (.slice (some ⟨q, 0, none⟩) (s.ws.length + 1) cap)) rb (rC mb s.fuel nx vx vn vo wr (.slice (some ⟨q, 0, none⟩) (s.ws.length + 1) cap) sh) 101 := Joins.block_setCell (i := 7) b3 _
  refine ⟨G', F, h.turn2 F R (ws' := f :: s.ws) (md' := s.md) (cs := cs ++ d) blk (fun i k hi hk => oth i (h.rep.lt hi) (fun z => by rw [z, h.rt] at hi; cases hi; omega) (tg i _ hi (fun z => by cases z; omega))) (mdC.le F.le b) ⟨?_, ?_⟩ ?_⟩
  · exact ho.kept (row := some rb) ⟨rfl, rfl, rfl, by simp [World.setCell], fun i _ hi => setCell_block _ _ _ _ (fun z => hi (by rw [z]))⟩ (.inr (fun z => nq (by simpa [Value.ownBlock] using z)))
  · intro g hgq
    simp [Value.ownBlock] at hgq
    rw [← hgq]; exact hq
  · rw [List.reverse_cons]
    exact fmsC_snoc (fmsC.le F.le e) (fmC.le F.le hf)
set_option maxRecDepth 100000 in
set_option maxHeartbeats 4000000 in
theorem wait_any (h : Run w G rb mb mv s sh) (f : Fm) (wh pl : Int) (po px pn : Option Addr) (ga : Option Addr) (gn gc : Nat) (hf : fmC G f [.int .i64 wh, .pointer po, .slice ga gn gc, .pointer px, .pointer pn, .int .i64 pl]) (hn : s.ws.length + 1 ≤ 1000000000) :
    Calls Tryz.prog 73 #[ptr rb, .agg #[.int .i64 wh, .pointer po, .slice ga gn gc, .pointer px, .pointer pn, .int .i64 pl]] w (Out w G rb mb mv { s with ws := f :: s.ws } sh) := by
  obtain ⟨nx, vx, vn, vo, wr, vw, cs, a, b, c, d⟩ := h.r
  obtain ⟨i0, hi, hz0, hz1, hz2⟩ := info_parts info160
  have H := Hid.mk (And.intro h (And.intro a (And.intro b (And.intro c (And.intro d hf)))))
  have O := c.row
  have c7 := a.cell 7
  have lt := h.rlt
  have nb : ¬ rb = w.heap.size := by omega
  obtain ⟨n, hn0⟩ : ∃ n, s.ws.length = n := ⟨_, rfl⟩
  have HN := Hid.mk hn0
  rw [hn0] at O hn
  clear h a b c d hf hn0
  go_enter Tryz.func73, Tryz.ntmps73
  go_wp2
  go_region_law (first
    | (refine step_append_lies _ (by rfl) _ _ _ (by rfl) 0 160 i0 _ 6 64 Tryz.underlying97 hi hz0 hz1 hz2 rfl (by decide) vw n cs (by rfl) (by repeat (first | with_reducible exact O | refine own_drew' ?_ | refine own_alloc' ?_ _)) ⟨w.heap.size + 1, 0, none⟩ 1 1 [.int .i64 wh, .pointer po, .slice ga gn gc, .pointer px, .pointer pn, .int .i64 pl] (by rfl) rfl (news6 w _ #[.int .i64 wh, .pointer po, .slice ga gn gc, .pointer px, .pointer pn, .int .i64 pl] 160) (by simp [Value.oneCell']) (by decide) (by unfold maxLen; omega) (by omega) (by simp) _ rfl ?_; intro q cap w3 ho hg hat hlt; have HB := below_here' (bal' (bal' (Below.refl _ w) _) _).drew hg; have HE := Hid.mk (wait_end H.out.1 H.out.2.1 H.out.2.2.1 H.out.2.2.2.1 H.out.2.2.2.2.1 H.out.2.2.2.2.2 HB hg (by rw [HN.out]; exact ho) hat); rw [HN.out] at HE; obtain ⟨y0, y1⟩ := HE.out.1; clear HB ho hg hat hlt))
  all_goals go_wp2
  all_goals go_end0
  all_goals exact HE.out.2
end
end Go.Proofs.YtbajpejnnfacbaaGreatDoor.Lz
