/- Codes: the plain side (constructors' fields, globals' infos, infos, instructions), and as they lie in memory. -/
import Derived.Test.YtidplckoolmaiaaDoorBas
namespace Go.Proofs.YtidplckoolmaiaaDoor
open Go.RowKit
set_option linter.unusedVariables false
set_option linter.unusedSimpArgs false

structure Inf where
  k : Int
  a : Int
  f : Int
  t : Int
structure Mk where
  k : Int
  i : Int
  n : Int
  fr : List Int
structure Arm where
  k : Int
  c : Int
  n : Int
  t : Int
structure Ins where
  op : Int
  a : Int
  b : Int
  li : List Int
  ke : List Int
  ms : List Mk
  ar : List Arm
/-- a code: the constructors' fields, the globals' infos, the infos, the instructions -/
structure Cd where
  co : List Int
  gl : List Int
  inf : List Inf
  ins : List Ins
def inf0 : Inf := ⟨0, 0, 0, 0⟩
def ins0 : Ins := ⟨0, 0, 0, [], [], [], []⟩
def In64 (a : Int) : Prop := -9223372036854775808 ≤ a ∧ a ≤ 9223372036854775807

/-! ## What the program answers, as plain functions -/
def belowI (n m : Int) : Bool := decide (0 ≤ n) && decide (n < m)
def conB (c : Cd) (n : Int) : Bool := belowI n c.co.length
def coA (c : Cd) (n : Int) : Int := c.co.getD n.toNat 0
def infA (c : Cd) (n : Int) : Inf := c.inf.getD n.toNat inf0
def insA (c : Cd) (n : Int) : Ins := c.ins.getD n.toNat ins0
def mkKind (m : Mk) : Bool := m.k == 1 || (m.k == 2 || (m.k == 3 || (m.k == 6 || m.k == 7)))
def arKind (a : Arm) : Bool := a.k == 1 || (a.k == 2 || a.k == 3)
def namedI (c : Cd) (m : Mk) : Bool :=
  if m.k = 1 then conB c m.i
  else if m.k = 3 ∨ m.k = 6 then belowI m.i c.inf.length && ((infA c m.i).k == m.k)
  else if m.k = 7 then conB c m.i && (decide (0 ≤ m.n) && decide (m.n < coA c m.i))
  else true
def enoughI (c : Cd) (m : Mk) : Bool :=
  if m.k = 1 then !namedI c m || ((m.fr.length : Int) == coA c m.i)
  else if m.k = 3 ∨ m.k = 6 then !namedI c m || ((m.fr.length : Int) == (infA c m.i).f)
  else if m.k = 7 then (m.fr.length : Int) == 1
  else true
def standsI (c : Cd) (p n : Int) : Bool := if p < 0 then decide (-1 - p < c.gl.length) else decide (p < n)
def kindsI (x : Ins) : Bool :=
  if x.op = 1 then x.ms.all mkKind
  else if x.op = 5 then x.ar.all arKind
  else x.op == 2 || (x.op == 3 || (x.op == 4 || x.op == 6))
def localsI (x : Ins) : Bool := if x.op = 5 then decide (1 ≤ x.b) && decide (x.b ≤ 1000) else decide (0 ≤ x.b) && decide (x.b ≤ 1000)
def primB (a : Int) : Bool := decide (0 < rowN a)
def primI (x : Ins) : Bool := if x.op = 6 then primB x.a else true
def countsI (c : Cd) (x : Ins) : Bool :=
  if x.op = 1 then decide (0 < x.ms.length) && x.ms.all (enoughI c)
  else if x.op = 2 then decide (x.li.length ≤ 8)
  else if x.op = 5 then decide (0 < x.ar.length)
  else if x.op = 6 then !primB x.a || ((x.li.length : Int) == tA (rowN x.a))
  else true
def armN (c : Cd) (a : Arm) : Bool := if a.k = 1 then conB c a.c else true
def namesI (c : Cd) (x : Ins) : Bool :=
  if x.op = 1 then x.ms.all (namedI c)
  else if x.op = 5 then x.ar.all (armN c)
  else true
def mkPl (c : Cd) (n : Int) (m : Mk) : Bool := if m.k = 2 then true else m.fr.all fun p => standsI c p n
def placesI (c : Cd) (x : Ins) : Bool :=
  if x.op = 1 then x.ms.all (mkPl c (x.b + x.ms.length))
  else if x.op = 2 then standsI c x.a x.b && x.li.all fun p => standsI c p x.b
  else if x.op = 3 then standsI c x.a x.b
  else if x.op = 4 then (x.li.all fun p => standsI c p x.b) && x.ke.all fun p => standsI c p x.b
  else if x.op = 6 then x.li.all fun p => standsI c p x.b
  else true
def fieldsI (c : Cd) (a : Arm) : Int := if a.k = 1 then coA c a.c else 0
def waysI (c : Cd) (z : Int) (x : Ins) : List (Int × Int) :=
  if x.op = 1 then [(z + 1, x.b + x.ms.length)]
  else if x.op = 4 then [(z + 1, x.li.length), (x.a, x.ke.length + 1)]
  else if x.op = 5 then x.ar.map fun a => (a.t, x.b + fieldsI c a)
  else []
def thereI (c : Cd) (y : Int × Int) : Bool := belowI y.1 c.ins.length
def fitsI (c : Cd) (y : Int × Int) : Bool := (insA c y.1).b == y.2
def armsI (c : Cd) (x : Ins) : Bool := if x.op = 4 then (insA c x.a).op == 5 else true
def wrongI (c : Cd) (z : Int) (x : Ins) : Int :=
  if kindsI x = false then 6
  else if localsI x = false then 7
  else if countsI c x = false then 33
  else if namesI c x = false then 32
  else if primI x = false then 34
  else if placesI c x = false then 4
  else if (waysI c z x).all (thereI c) = false then 4
  else if armsI c x = false then 6
  else if (waysI c z x).all (fitsI c) = false then 7
  else 0
def wrongCon (a : Int) : Int := if a < 0 ∨ 8 < a then 33 else 0
def wrongInf (c : Cd) (f : Inf) : Int :=
  if ¬ (f.k = 3 ∨ f.k = 6) then 6
  else if (f.k = 3 ∧ (f.a < 1 ∨ 8 < f.a)) ∨ (f.k = 6 ∧ ¬ f.a = 0) ∨ f.f < 0 ∨ 255 < f.f then 33
  else if belowI f.t c.ins.length = false then 4
  else if ¬ (insA c f.t).b = f.a + f.f then 7
  else 0
def wrongGlo (c : Cd) (g : Int) : Int :=
  if belowI g c.inf.length = false then 4
  else if ¬ (infA c g).f = 0 then 6
  else 0

/-! ## In memory -/
/-- a list of things of so many cells each, as a slice -/
def Lst (w : World) {α : Type} (sz : Nat) (P : α → List Value → Prop) (l : List α) (v : Value) : Prop :=
  ∃ ga cap, v = .slice ga l.length cap ∧ (l.length ≤ cap ∧ l.length ≤ maxLen) ∧
    (0 < l.length → ∃ g off, ga = some ⟨g, off, none⟩ ∧ ∀ i x, l[i]? = some x → ∃ c, P x c ∧ ∀ j u, c[j]? = some u → w.cell? ⟨g, off + i * sz + j, none⟩ = some u)
theorem Lst.later {α : Type} {w w' : World} {sz : Nat} {P P' : α → List Value → Prop} {l : List α} {v : Value} (h : Lst w sz P l v) (hb : Below w.heap.size w w') (hP : ∀ x c, P x c → P' x c) : Lst w' sz P' l v := by
  obtain ⟨ga, cap, rfl, hc, hx⟩ := h
  refine ⟨ga, cap, rfl, hc, fun hn => ?_⟩
  obtain ⟨g, off, rfl, hy⟩ := hx hn
  refine ⟨g, off, rfl, fun i x hi => ?_⟩
  obtain ⟨c, pc, hc⟩ := hy i x hi
  refine ⟨c, hP _ _ pc, fun j u hj => ?_⟩
  have := hc j u hj
  exact (hb.cell (p := ⟨g, off + i * sz + j, none⟩) (World.block_lt_of_cell? _ _ this)).trans this
theorem Lst.len {α : Type} {w : World} {sz : Nat} {P : α → List Value → Prop} {l : List α} {v : Value} (h : Lst w sz P l v) : l.length ≤ maxLen := by
  obtain ⟨ga, cap, rfl, hc, hx⟩ := h
  exact hc.2
def isInt (x : Int) (c : List Value) : Prop := c = [.int .i64 x] ∧ In64 x
def isCon (a : Int) (c : List Value) : Prop := ∃ s, c = [.string s, .int .i64 a]
def isInf (x : Inf) (c : List Value) : Prop := c = [.int .i64 x.k, .int .i64 x.a, .int .i64 x.f, .int .i64 x.t]
def isArm (x : Arm) (c : List Value) : Prop := c = [.int .i64 x.k, .int .i64 x.c, .int .i64 x.n, .int .i64 x.t]
def isMk (w : World) (m : Mk) (c : List Value) : Prop := ∃ vf, c = [.int .i64 m.k, .int .i64 m.i, .int .i64 m.n, vf] ∧ Lst w 1 isInt m.fr vf
def isIns (w : World) (x : Ins) (c : List Value) : Prop := ∃ vl vk vm va, c = [.int .i64 x.op, .int .i64 x.a, .int .i64 x.b, vl, vk, vm, va] ∧ Lst w 1 isInt x.li vl ∧ Lst w 1 isInt x.ke vk ∧ Lst w 4 (isMk w) x.ms vm ∧ Lst w 4 isArm x.ar va
/-- a code's four slices -/
structure Cv (w : World) (c : Cd) (vc vg vi vn : Value) : Prop where
  co : Lst w 2 isCon c.co vc
  gl : Lst w 2 isCon c.gl vg
  inf : Lst w 4 isInf c.inf vi
  ins : Lst w 7 (isIns w) c.ins vn
/-- an instruction's four slices -/
structure Iv (w : World) (x : Ins) (vl vk vm va : Value) : Prop where
  li : Lst w 1 isInt x.li vl
  ke : Lst w 1 isInt x.ke vk
  ms : Lst w 4 (isMk w) x.ms vm
  ar : Lst w 4 isArm x.ar va
section
variable {w w' : World}
theorem isMk_later (hb : Below w.heap.size w w') {m : Mk} {c : List Value} (h : isMk w m c) : isMk w' m c := by
  obtain ⟨vf, e, h⟩ := h
  exact ⟨vf, e, h.later hb fun _ _ h => h⟩
theorem Iv.later (hb : Below w.heap.size w w') {x : Ins} {vl vk vm va : Value} (h : Iv w x vl vk vm va) : Iv w' x vl vk vm va :=
  ⟨h.li.later hb fun _ _ h => h, h.ke.later hb fun _ _ h => h, h.ms.later hb fun _ _ h => isMk_later hb h, h.ar.later hb fun _ _ h => h⟩
theorem isIns_later (hb : Below w.heap.size w w') {x : Ins} {c : List Value} (h : isIns w x c) : isIns w' x c := by
  obtain ⟨vl, vk, vm, va, e, h1, h2, h3, h4⟩ := h
  obtain ⟨q1, q2, q3, q4⟩ := Iv.later hb ⟨h1, h2, h3, h4⟩
  exact ⟨vl, vk, vm, va, e, q1, q2, q3, q4⟩
theorem Cv.later (hb : Below w.heap.size w w') {c : Cd} {vc vg vi vn : Value} (h : Cv w c vc vg vi vn) : Cv w' c vc vg vi vn :=
  ⟨h.co.later hb fun _ _ h => h, h.gl.later hb fun _ _ h => h, h.inf.later hb fun _ _ h => h, h.ins.later hb fun _ _ h => isIns_later hb h⟩
/-- what an index gives -/
theorem Lst.get {α : Type} {sz : Nat} {P : α → List Value → Prop} {l : List α} {v : Value} (h : Lst w sz P l v) (i : Nat) (hi : i < l.length) :
    ∃ g off cap c, v = .slice (some ⟨g, off, none⟩) l.length cap ∧ l.length ≤ cap ∧ l.length ≤ maxLen ∧ P (l[i]'hi) c ∧ ∀ j u, c[j]? = some u → w.cell? ⟨g, off + i * sz + j, none⟩ = some u := by
  obtain ⟨ga, cap, rfl, hc, hx⟩ := h
  obtain ⟨g, off, rfl, hy⟩ := hx (by omega)
  obtain ⟨c, pc, hc'⟩ := hy i _ (List.getElem?_eq_getElem hi)
  exact ⟨g, off, cap, c, rfl, hc.1, hc.2, pc, hc'⟩
end
/-- the checker: its block, with the code's slices, the instruction's place, the instruction -/
structure Ck (w : World) (b : Nat) (z : Int) (x : Ins) (vc vg vi vn vl vk vm va : Value) : Prop where
  c0 : w.cell? ⟨b, 0, none⟩ = some vc
  c1 : w.cell? ⟨b, 1, none⟩ = some vg
  c2 : w.cell? ⟨b, 2, none⟩ = some vi
  c3 : w.cell? ⟨b, 3, none⟩ = some vn
  c4 : w.cell? ⟨b, 4, none⟩ = some (.int .i64 z)
  c5 : w.cell? ⟨b, 5, none⟩ = some (.int .i64 x.op)
  c6 : w.cell? ⟨b, 6, none⟩ = some (.int .i64 x.a)
  c7 : w.cell? ⟨b, 7, none⟩ = some (.int .i64 x.b)
  c8 : w.cell? ⟨b, 8, none⟩ = some vl
  c9 : w.cell? ⟨b, 9, none⟩ = some vk
  c10 : w.cell? ⟨b, 10, none⟩ = some vm
  c11 : w.cell? ⟨b, 11, none⟩ = some va
theorem Ck.later {w w' : World} (hb : Below w.heap.size w w') {b : Nat} {z : Int} {x : Ins} {vc vg vi vn vl vk vm va : Value} (h : Ck w b z x vc vg vi vn vl vk vm va) : Ck w' b z x vc vg vi vn vl vk vm va := by
  have k : ∀ o u, w.cell? ⟨b, o, none⟩ = some u → w'.cell? ⟨b, o, none⟩ = some u := fun o u e => (hb.cell (p := ⟨b, o, none⟩) (World.block_lt_of_cell? _ _ e)).trans e
  exact ⟨k _ _ h.c0, k _ _ h.c1, k _ _ h.c2, k _ _ h.c3, k _ _ h.c4, k _ _ h.c5, k _ _ h.c6, k _ _ h.c7, k _ _ h.c8, k _ _ h.c9, k _ _ h.c10, k _ _ h.c11⟩
end Go.Proofs.YtidplckoolmaiaaDoor
