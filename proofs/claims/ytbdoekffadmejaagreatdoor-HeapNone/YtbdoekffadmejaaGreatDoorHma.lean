/- A heap in memory: what each block holds is told by a tag; a box, a pool, an arena, spaces by generation and step, a map of places, lists, and a collection that is under way. -/
import Derived.Test.YtbdoekffadmejaaGreatDoorHsa
import Derived.Test.YtbdoekffadmejaaGreatDoorBpn
import Derived.Test.YtbdoekffadmejaaGreatDoorRme
import Derived.Test.YtbdoekffadmejaaGreatDoorWUnpack
import Derived.Test.YtbdoekffadmejaaGreatDoorSOver
namespace Go.Proofs.YtbdoekffadmejaaGreatDoor
open Go.RowKit
open Go.Maps (Keyed int_keyed)
set_option linter.unusedVariables false
set_option linter.unusedSimpArgs false

/-- A fact that the walk does not look at. -/
structure Hid (P : Prop) : Prop where
  out : P

/-! ### Tags -/
inductive Tg where
  | no | hb | pb | pr | ab | ar | so | si | wm | kb | ko | ka | kf
  | sb (s : Nat) | sm (s : Nat) | sr (s : Nat)
  | lb (b : Bool) | lr (b : Bool) | lm (b : Bool)
  | x (n : Nat)
/-- What turns: blocks whose tag is one of T; new blocks are made; the tags of old ones stay. -/
structure Fr (T : Tg → Prop) (w w' : World) (γ γ' : Nat → Tg) : Prop where
  os : w'.os = w.os
  tape : w'.tape = w.tape
  output : w'.output = w.output
  size : w.heap.size ≤ w'.heap.size
  tag : ∀ k, k < w.heap.size → γ' k = γ k
  block : ∀ k, k < w.heap.size → ¬ T (γ k) → w'.heap[k]? = w.heap[k]?
section
variable {T U : Tg → Prop} {w w' w2 : World} {γ γ' γ2 : Nat → Tg}
theorem Fr.refl (T : Tg → Prop) (w : World) (γ : Nat → Tg) : Fr T w w γ γ := ⟨rfl, rfl, rfl, Nat.le_refl _, fun _ _ => rfl, fun _ _ _ => rfl⟩
theorem Fr.trans (h : Fr T w w' γ γ') (k : Fr T w' w2 γ' γ2) : Fr T w w2 γ γ2 :=
  ⟨k.os.trans h.os, k.tape.trans h.tape, k.output.trans h.output, Nat.le_trans h.size k.size,
    fun i hi => (k.tag i (Nat.lt_of_lt_of_le hi h.size)).trans (h.tag i hi),
    fun i hi hx => (k.block i (Nat.lt_of_lt_of_le hi h.size) (by rw [h.tag i hi]; exact hx)).trans (h.block i hi hx)⟩
theorem Fr.mono (h : Fr T w w' γ γ') (q : ∀ t, T t → U t) : Fr U w w' γ γ' := ⟨h.os, h.tape, h.output, h.size, h.tag, fun k hk hx => h.block k hk (fun e => hx (q _ e))⟩
theorem Fr.later (T : Tg → Prop) (γ : Nat → Tg) (h : Below w.heap.size w w') : Fr T w w' γ γ := ⟨h.os, h.tape, h.output, h.size, fun _ _ => rfl, fun k hk _ => h.block k hk⟩
theorem Fr.chg {X : Nat → Prop} (h : Bp.Chg X w w') (q : ∀ k, k < w.heap.size → X k → T (γ k)) : Fr T w w' γ γ := ⟨h.os, h.tape, h.output, h.size, fun _ _ => rfl, fun k hk hx => h.block k hk (fun e => hx (q k hk e))⟩
theorem Fr.one {b : Nat} (h : w.grownBy w' (some b)) (q : T (γ b)) : Fr T w w' γ γ := ⟨h.os, h.tape, h.output, h.size, fun _ _ => rfl, fun k hk hx => h.block k hk (fun e => hx (by cases e; exact q))⟩
/-- New blocks get other tags. -/
theorem Fr.retag (h : Fr T w w' γ γ') {γ2 : Nat → Tg} (q : ∀ k, k < w.heap.size → γ2 k = γ' k) : Fr T w w' γ γ2 := ⟨h.os, h.tape, h.output, h.size, fun k hk => (q k hk).trans (h.tag k hk), h.block⟩
theorem Fr.below (h : Fr T w w' γ γ') {n : Nat} (q : ∀ k, k < n → ¬ T (γ k)) (hn : n ≤ w.heap.size) : Below n w w' := ⟨h.os, h.tape, h.output, h.size, fun k hk => h.block k (Nat.lt_of_lt_of_le hk hn) (q k hk)⟩
/-- A block that stays. -/
theorem Fr.at_ (h : Fr T w w' γ γ') {k : Nat} {o : Obj} (e : w.heap[k]? = some o) (q : ¬ T (γ k)) : w'.heap[k]? = some o := (h.block k (Array.getElem?_eq_some_iff.1 e).1 q).trans e
theorem Fr.tg (h : Fr T w w' γ γ') {k : Nat} {t : Tg} (hk : k < w.heap.size) (e : γ k = t) : γ' k = t := (h.tag k hk).trans e
end
theorem lt_of {w : World} {k : Nat} {o : Obj} (e : w.heap[k]? = some o) : k < w.heap.size := (Array.getElem?_eq_some_iff.1 e).1
/-- a tag for one block more -/
def tagd (γ : Nat → Tg) (b : Nat) (t : Tg) : Nat → Tg := fun k => if k = b then t else γ k
theorem tagd_same (γ : Nat → Tg) (b : Nat) (t : Tg) : tagd γ b t b = t := by simp [tagd]
theorem tagd_ne {γ : Nat → Tg} {b k : Nat} (t : Tg) (h : k ≠ b) : tagd γ b t k = γ k := by simp [tagd, h]

/-! ### The config -/
structure Cf where
  g : Nat
  s : Nat
  b : Nat
  y : Int
  o : Int
structure Cf.Ok (c : Cf) : Prop where
  g : 1 ≤ c.g ∧ c.g ≤ 4
  s : 1 ≤ c.s ∧ c.s ≤ 3
  b : 2 ≤ c.b ∧ c.b ≤ 4096
  y : 1 ≤ c.y ∧ c.y ≤ c.b
  o : 0 ≤ c.o ∧ c.o ≤ 8
/-- how many steps a generation has -/
def Cf.n (c : Cf) (g : Nat) : Nat := if g + 1 = c.g then 1 else c.s
theorem Cf.Ok.n {c : Cf} (h : c.Ok) (g : Nat) : 1 ≤ c.n g ∧ c.n g ≤ 3 := by have := h.s; unfold Cf.n; split <;> omega

/-! ### Parts -/
abbrev pt (s : Nat) : Value := .pointer (some ⟨s, 0, none⟩)
/-- A space, with its pool's and its arena's box. -/
def SpM (w : World) (γ : Nat → Tg) (p a s : Nat) (S : Bp.S0) : Prop :=
  ∃ m v, Bp.Sp w s p a m v S ∧ γ s = .sb s ∧ γ m = .sm s ∧ ∀ k, v.ownBlock = some k → γ k = .sr s
def PlM (w : World) (γ : Nat → Tg) (p : Nat) (f : Nat → Int) (N : Nat) : Prop := ∃ pb, Bp.Has 182 w p pb f N ∧ γ p = .pb ∧ γ pb = .pr
def ArM (w : World) (γ : Nat → Tg) (a : Nat) (xs : List Int) : Prop := ∃ ab, Bp.Ar.Has 169 w a ab xs ∧ γ a = .ab ∧ γ ab = .ar
def LiM (b : Bool) (w : World) (γ : Nat → Tg) (l n : Nat) (L : Nat → List Int) : Prop :=
  ∃ sb m, Rm.Ls 0 w l sb n m L ∧ γ l = .lb b ∧ γ sb = .lr b ∧ ∀ i, i < n → γ (m i) = .lm b
abbrev plc (x : Nat × Nat) : Value := .agg #[.int .i64 (x.1 : Int), .int .i64 (x.2 : Int)]
/-- A map of places, of so many at most. -/
def WM (w : World) (m n : Nat) (f : Int → Option (Nat × Nat)) : Prop := ∃ g, Bp.VM 3 w m n g ∧ ∀ x : Int, g (.int .i64 x) = (f x).map plc
section
variable {T : Tg → Prop} {w w' : World} {γ γ' : Nat → Tg}
theorem SpM.lt {p a s : Nat} {S : Bp.S0} (h : SpM w γ p a s S) : s < w.heap.size := by obtain ⟨m, v, h, _⟩ := h; exact h.lt s (.inl rfl)
theorem SpM.fr {p a s : Nat} {S : Bp.S0} (h : SpM w γ p a s S) (F : Fr T w w' γ γ') (h1 : ¬ T (.sb s)) (h2 : ¬ T (.sm s)) (h3 : ¬ T (.sr s)) : SpM w' γ' p a s S := by
  obtain ⟨m, v, h, t1, t2, t3⟩ := h
  have l1 := h.lt s (.inl rfl)
  have l2 := h.lt m (.inr (.inl rfl))
  have l3 := fun k e => h.lt k (.inr (.inr e))
  refine ⟨m, v, h.same ?_, F.tg l1 t1, F.tg l2 t2, fun k e => F.tg (l3 k e) (t3 k e)⟩
  rintro k (rfl | rfl | e)
  · exact F.block _ l1 (by rw [t1]; exact h1)
  · exact F.block _ l2 (by rw [t2]; exact h2)
  · exact F.block _ (l3 k e) (by rw [t3 k e]; exact h3)
theorem PlM.fr {p N : Nat} {f : Nat → Int} (h : PlM w γ p f N) (F : Fr T w w' γ γ') (h1 : ¬ T .pb) (h2 : ¬ T .pr) : PlM w' γ' p f N := by
  obtain ⟨pb, h, t1, t2⟩ := h
  exact ⟨pb, ⟨F.at_ h.box (by rw [t1]; exact h1), F.at_ h.nums (by rw [t2]; exact h2), h.ne, h.pos, h.len⟩, F.tg h.lt.1 t1, F.tg h.lt.2 t2⟩
theorem ArM.fr {a : Nat} {xs : List Int} (h : ArM w γ a xs) (F : Fr T w w' γ γ') (h1 : ¬ T .ab) (h2 : ¬ T .ar) : ArM w' γ' a xs := by
  obtain ⟨ab, h, t1, t2⟩ := h
  exact ⟨ab, ⟨F.at_ h.box (by rw [t1]; exact h1), F.at_ h.words (by rw [t2]; exact h2), h.ne, h.len⟩, F.tg h.lt.1 t1, F.tg h.lt.2 t2⟩
theorem LiM.fr {b : Bool} {l n : Nat} {L : Nat → List Int} (h : LiM b w γ l n L) (F : Fr T w w' γ γ') (h1 : ¬ T (.lb b)) (h2 : ¬ T (.lr b)) (h3 : ¬ T (.lm b)) : LiM b w' γ' l n L := by
  obtain ⟨sb, m, h, t1, t2, t3⟩ := h
  refine ⟨sb, m, ⟨F.at_ h.box (by rw [t1]; exact h1), F.at_ h.sets (by rw [t2]; exact h2), fun i hi => (h.map i hi).of_block (F.block _ (h.map i hi).lt (by rw [t3 i hi]; exact h3)), h.gd, h.inj, h.le, h.lo⟩, F.tg (lt_of h.box) t1, F.tg (lt_of h.sets) t2, fun i hi => F.tg (h.map i hi).lt (t3 i hi)⟩
theorem WM.lt {m n : Nat} {f : Int → Option (Nat × Nat)} (h : WM w m n f) : m < w.heap.size := by obtain ⟨g, h, _⟩ := h; exact h.lt
theorem WM.of_block {m n : Nat} {f : Int → Option (Nat × Nat)} (h : WM w m n f) (e : w'.heap[m]? = w.heap[m]?) : WM w' m n f := by obtain ⟨g, h, q⟩ := h; exact ⟨g, h.of_block e, q⟩
theorem WM.fr {m n : Nat} {f : Int → Option (Nat × Nat)} (h : WM w m n f) (F : Fr T w w' γ γ') (h1 : ¬ T (γ m)) : WM w' m n f := h.of_block (F.block _ h.lt h1)
end

/-! ### The rows of spaces -/
/-- Where the spaces are: the outer list, the lists of the generations, the boxes. -/
structure Ad where
  p : Nat
  a : Nat
  ov : Value
  vs : Nat → Value
  σ : Nat → Nat → Nat
  wm : Nat
  wn : Nat
  l : Nat
structure RwM (w : World) (γ : Nat → Tg) (c : Cf) (A : Ad) : Prop where
  out : w.ownsRow 0 113 1 A.ov c.g ((List.range c.g).map A.vs)
  outT : ∀ k, A.ov.ownBlock = some k → γ k = .so
  inn : ∀ g, g < c.g → w.ownsRow 0 100 1 (A.vs g) (c.n g) ((List.range (c.n g)).map fun s => pt (A.σ g s))
  innT : ∀ g, g < c.g → ∀ k, (A.vs g).ownBlock = some k → γ k = .si
section
variable {T : Tg → Prop} {w w' : World} {γ γ' : Nat → Tg}
theorem RwM.fr {c : Cf} {A : Ad} (h : RwM w γ c A) (F : Fr T w w' γ γ') (h1 : ¬ T .so) (h2 : ¬ T .si) : RwM w' γ' c A := by
  refine ⟨Bp.ownsRow_same h.out (fun k e => F.block k (h.out.lt k e).2 (by rw [h.outT k e]; exact h1)), fun k e => F.tg (h.out.lt k e).2 (h.outT k e), fun g hg => Bp.ownsRow_same (h.inn g hg) (fun k e => F.block k ((h.inn g hg).lt k e).2 (by rw [h.innT g hg k e]; exact h2)), fun g hg k e => F.tg ((h.inn g hg).lt k e).2 (h.innT g hg k e)⟩
end

/-! ### The heap -/
/-- A collection that is under way. -/
structure Wk where
  old : List Bp.S0
  av : Int → Option (Nat × Nat)
  fresh : List Int
  told : Nat
  late : Nat → List Int
structure Hs where
  c : Cf
  f : Nat → Int
  xs : List Int
  sp : Nat → Nat → Bp.S0
  wh : Int → Option (Nat × Nat)
  L : Nat → List Int
def hcells (c : Cf) (p a ov wm l k : Value) (d : Bool) : Array Value :=
  #[.int .i64 c.g, .int .i64 c.s, .int .i64 c.b, .int .i64 c.y, .int .i64 c.o, p, a, ov, wm, l, k, .bool d]
/-- The tables of the packages below. -/
structure Gl (w : World) (γ : Nat → Tg) : Prop where
  tb : Sh.Table w
  sp : Wo.Spans w
  t0 : γ 0 = .no
  t1 : γ 1 = .no
theorem Gl.lt {w : World} {γ : Nat → Tg} (h : Gl w γ) : 1 < w.heap.size := World.block_lt_of_cell? _ _ h.sp.c0
theorem Gl.fr {T : Tg → Prop} {w w' : World} {γ γ' : Nat → Tg} (h : Gl w γ) (F : Fr T w w' γ γ') (q : ¬ T .no) : Gl w' γ' := by
  have l := h.lt
  have b0 : w'.heap[0]? = w.heap[0]? := F.block 0 (by omega) (by rw [h.t0]; exact q)
  have b1 : w'.heap[1]? = w.heap[1]? := F.block 1 l (by rw [h.t1]; exact q)
  have k0 : ∀ o, w'.cell? ⟨0, o, none⟩ = w.cell? ⟨0, o, none⟩ := fun o => World.cell?_of_block b0
  have k1 : ∀ o, w'.cell? ⟨1, o, none⟩ = w.cell? ⟨1, o, none⟩ := fun o => World.cell?_of_block b1
  have t := h.tb
  have s := h.sp
  exact ⟨⟨fun j hj => (k0 _).trans (t.i j hj), fun j hj => (k0 _).trans (t.a j hj), fun j hj => (k0 _).trans (t.b j hj), fun j hj => (k0 _).trans (t.c j hj), fun j hj => (k0 _).trans (t.d j hj)⟩,
    ⟨(k1 _).trans s.c0, (k1 _).trans s.c1, (k1 _).trans s.c2, (k1 _).trans s.c3, (k1 _).trans s.c4, (k1 _).trans s.c5, (k1 _).trans s.c6, (k1 _).trans s.c7, (k1 _).trans s.c8, (k1 _).trans s.c9, (k1 _).trans s.c10, (k1 _).trans s.c11⟩,
    (F.tag 0 (by omega)).trans h.t0, (F.tag 1 l).trans h.t1⟩
/-- The heap but its collection. -/
structure Hm (w : World) (γ : Nat → Tg) (h : Nat) (k : Value) (A : Ad) (H : Hs) : Prop where
  box : w.heap[h]? = some (.cells (hcells H.c (pt A.p) (pt A.a) A.ov (.map (some A.wm)) (pt A.l) k false) 96 (0, 0))
  tag : γ h = .hb
  gl : Gl w γ
  ok : H.c.Ok
  pool : PlM w γ A.p H.f H.c.b
  good : Bp.Good H.f H.c.b
  zero : H.f 0 ≠ -1
  ar : ArM w γ A.a H.xs
  len : H.xs.length = H.c.b * 64
  word : ∀ x ∈ H.xs, 0 ≤ x ∧ x ≤ 18446744073709551615
  row : RwM w γ H.c A
  sps : ∀ g s, g < H.c.g → s < H.c.n g → SpM w γ A.p A.a (A.σ g s) (H.sp g s)
  inj : ∀ g s g' s', g < H.c.g → s < H.c.n g → g' < H.c.g → s' < H.c.n g' → A.σ g s = A.σ g' s' → g = g' ∧ s = s'
  fit : ∀ g s, g < H.c.g → s < H.c.n g → Bp.Fit (H.sp g s) (H.c.b * 64)
  wh : WM w A.wm A.wn H.wh
  whT : γ A.wm = .wm
  li : LiM false w γ A.l H.c.g H.L
  dom : ∀ x g s, H.wh x = some (g, s) → 1 ≤ x ∧ x < H.c.b * 64 ∧ g < H.c.g ∧ s < H.c.n g
section
variable {T : Tg → Prop} {w w' : World} {γ γ' : Nat → Tg} {h : Nat} {k : Value} {A : Ad} {H : Hs}
theorem Hm.lt (q : Hm w γ h k A H) : h < w.heap.size := lt_of q.box
theorem Hm.cell (q : Hm w γ h k A H) (i : Nat) : w.cell? ⟨h, i, none⟩ = (hcells H.c (pt A.p) (pt A.a) A.ov (.map (some A.wm)) (pt A.l) k false)[i]? := by rw [Joins.cell_of_block q.box]
theorem Hm.cg (q : Hm w γ h k A H) : w.cell? ⟨h, 0, none⟩ = some (.int .i64 H.c.g) := q.cell 0
theorem Hm.cs (q : Hm w γ h k A H) : w.cell? ⟨h, 1, none⟩ = some (.int .i64 H.c.s) := q.cell 1
theorem Hm.cp (q : Hm w γ h k A H) : w.cell? ⟨h, 5, none⟩ = some (pt A.p) := q.cell 5
theorem Hm.ca (q : Hm w γ h k A H) : w.cell? ⟨h, 6, none⟩ = some (pt A.a) := q.cell 6
theorem Hm.co (q : Hm w γ h k A H) : w.cell? ⟨h, 7, none⟩ = some A.ov := q.cell 7
theorem Hm.cw (q : Hm w γ h k A H) : w.cell? ⟨h, 8, none⟩ = some (.map (some A.wm)) := q.cell 8
theorem Hm.cl (q : Hm w γ h k A H) : w.cell? ⟨h, 9, none⟩ = some (pt A.l) := q.cell 9
theorem Hm.ck (q : Hm w γ h k A H) : w.cell? ⟨h, 10, none⟩ = some k := q.cell 10
theorem Hm.cd (q : Hm w γ h k A H) : w.cell? ⟨h, 11, none⟩ = some (.bool false) := q.cell 11
theorem Hm.z (q : Hm w γ h k A H) (i : Nat) : w.frozen? ⟨h, i, none⟩ = false := Joins.unfrozen_of_block q.box i
/-- All of it stays. -/
theorem Hm.fr (q : Hm w γ h k A H) (F : Fr T w w' γ γ') (t : ∀ u, T u → (∃ n, u = .x n) ∨ u = .kb ∨ u = .ko ∨ u = .ka ∨ u = .kf ∨ u = .lb true ∨ u = .lr true ∨ u = .lm true) : Hm w' γ' h k A H := by
  have nt : ∀ u, (∀ n, u ≠ .x n) → u ≠ .kb → u ≠ .ko → u ≠ .ka → u ≠ .kf → u ≠ .lb true → u ≠ .lr true → u ≠ .lm true → ¬ T u := by
    intro u h0 h1 h2 h3 h4 h5 h6 h7 e
    rcases t u e with ⟨n, e⟩ | e | e | e | e | e | e | e
    · exact h0 n e
    all_goals contradiction
  exact {
    box := F.at_ q.box (by rw [q.tag]; exact nt _ nofun nofun nofun nofun nofun nofun nofun nofun)
    tag := F.tg q.lt q.tag
    gl := q.gl.fr F (nt _ nofun nofun nofun nofun nofun nofun nofun nofun)
    ok := q.ok
    pool := q.pool.fr F (nt _ nofun nofun nofun nofun nofun nofun nofun nofun) (nt _ nofun nofun nofun nofun nofun nofun nofun nofun)
    good := q.good
    zero := q.zero
    ar := q.ar.fr F (nt _ nofun nofun nofun nofun nofun nofun nofun nofun) (nt _ nofun nofun nofun nofun nofun nofun nofun nofun)
    len := q.len
    word := q.word
    row := q.row.fr F (nt _ nofun nofun nofun nofun nofun nofun nofun nofun) (nt _ nofun nofun nofun nofun nofun nofun nofun nofun)
    sps := fun g s hg hs => (q.sps g s hg hs).fr F (nt _ nofun nofun nofun nofun nofun nofun nofun nofun) (nt _ nofun nofun nofun nofun nofun nofun nofun nofun) (nt _ nofun nofun nofun nofun nofun nofun nofun nofun)
    inj := q.inj
    fit := q.fit
    wh := q.wh.fr F (by rw [q.whT]; exact nt _ nofun nofun nofun nofun nofun nofun nofun nofun)
    whT := F.tg q.wh.lt q.whT
    li := q.li.fr F (nt _ nofun nofun nofun nofun nofun nofun nofun nofun) (nt _ nofun nofun nofun nofun nofun nofun nofun nofun) (nt _ nofun nofun nofun nofun nofun nofun nofun nofun)
    dom := q.dom }
theorem Hm.later (q : Hm w γ h k A H) (b : Below w.heap.size w w') : Hm w' γ h k A H := q.fr (Fr.later (fun _ => False) γ b) (fun _ e => e.elim)
/-- The words turn. -/
theorem Hm.words (q : Hm w γ h k A H) {xs : List Int} (a : ArM w' γ A.a xs) (F : Fr (fun t => t = .ar) w w' γ γ) (l : xs.length = H.xs.length) (b : ∀ x ∈ xs, 0 ≤ x ∧ x ≤ 18446744073709551615) : Hm w' γ h k A { H with xs := xs } := {
    box := F.at_ q.box (by rw [q.tag]; nofun)
    tag := q.tag
    gl := q.gl.fr F nofun
    ok := q.ok
    pool := q.pool.fr F nofun nofun
    good := q.good
    zero := q.zero
    ar := a
    len := l.trans q.len
    word := b
    row := q.row.fr F nofun nofun
    sps := fun g s hg hs => (q.sps g s hg hs).fr F nofun nofun nofun
    inj := q.inj
    fit := q.fit
    wh := q.wh.fr F (by rw [q.whT]; nofun)
    whT := q.whT
    li := q.li.fr F nofun nofun nofun
    dom := q.dom }
/-- The lists turn. -/
theorem Hm.lists (q : Hm w γ h k A H) {L : Nat → List Int} (a : LiM false w' γ' A.l H.c.g L) (F : Fr (fun t => t = .lm false ∨ t = .lr false) w w' γ γ') : Hm w' γ' h k A { H with L := L } := {
    box := F.at_ q.box (by rw [q.tag]; nofun)
    tag := F.tg q.lt q.tag
    gl := q.gl.fr F nofun
    ok := q.ok
    pool := q.pool.fr F nofun nofun
    good := q.good
    zero := q.zero
    ar := q.ar.fr F nofun nofun
    len := q.len
    word := q.word
    row := q.row.fr F nofun nofun
    sps := fun g s hg hs => (q.sps g s hg hs).fr F nofun nofun nofun
    inj := q.inj
    fit := q.fit
    wh := q.wh.fr F (by rw [q.whT]; nofun)
    whT := F.tg q.wh.lt q.whT
    li := a
    dom := q.dom }
end
end Go.Proofs.YtbdoekffadmejaaGreatDoor
