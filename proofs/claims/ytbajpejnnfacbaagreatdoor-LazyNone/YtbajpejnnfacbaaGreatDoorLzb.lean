/- Package scope: Check, whole; Arity. -/
import Derived.Test.YtbajpejnnfacbaaGreatDoorPcr
import Derived.Test.YtbajpejnnfacbaaGreatDoorPrx
namespace Go.Proofs.YtbajpejnnfacbaaGreatDoor
open Go.RowKit
open Go.Maps (Keyed string_keyed)
set_option linter.unusedVariables false
set_option linter.unusedSimpArgs false

set_option maxRecDepth 100000 in
set_option maxHeartbeats 8000000 in
theorem pcheck_any (ds : List D) (bs : List B) (gd gb : Option Addr) (ld lb cd cb : Nat) (xb : List Value) (w : World) (T : Table w)
    (ID : IsRow w (fun g => g < w.heap.size) (datC ds) ds.length (.slice gd ld cd)) (IB : IsRow w (fun g => g < w.heap.size) xb bs.length (.slice gb lb cb)) (IBS : isBs w (fun g => g < w.heap.size) bs xb) (ed : ds.length = ld) (eb : bs.length = lb) (ok : okPg ds bs) (hw : bs.length + 2 * nmBs bs ≤ 1000000000) :
    Calls Tryz.prog 31 #[.agg #[.slice gd ld cd, .slice gb lb cb]] w fun e w' => e = .returned (.tuple #[.int .i64 (atF (checkP prN tA ⟨ds, bs⟩)), .int .i64 (erF (checkP prN tA ⟨ds, bs⟩))]) ∧ Below w.heap.size w w' := by
  have K1 := Joins.below_alloc1 w (.cells #[.slice gd ld cd, .slice gb lb cb] 25)
  have X1 : Bx (w.alloc (.cells #[.slice gd ld cd, .slice gb lb cb] 25)) w.heap.size #[.slice gd ld cd, .slice gb lb cb] 25 := heap_alloc_new w _
  have s1 : (w.alloc (.cells #[.slice gd ld cd, .slice gb lb cb] 25)).heap.size = w.heap.size + 1 := by rw [World.size_alloc]
  generalize hw1 : w.alloc (.cells #[.slice gd ld cd, .slice gb lb cb] 25) = w1 at K1 X1 s1
  have M2 := Mp.made w1
  have K2 := Joins.below_alloc1 w1 (.map #[] 0)
  have s2 : (w1.alloc (.map #[] 0)).heap.size = w.heap.size + 2 := by rw [World.size_alloc, s1]
  rw [s1] at M2
  generalize hw2 : w1.alloc (.map #[] 0) = w2 at K2 M2 s2
  have M3 := Mp.made w2
  have K3 := Joins.below_alloc1 w2 (.map #[] 0)
  have s3 : (w2.alloc (.map #[] 0)).heap.size = w.heap.size + 3 := by rw [World.size_alloc, s2]
  rw [s2] at M3
  generalize hw3 : w2.alloc (.map #[] 0) = w3 at K3 M3 s3
  have K4 := Joins.below_alloc1 w3 (.cells #[.map (some (w.heap.size + 1)), .map (some (w.heap.size + 2)), .int .i64 0, .int .i64 0] 105)
  have X4 : (w3.alloc (.cells #[.map (some (w.heap.size + 1)), .map (some (w.heap.size + 2)), .int .i64 0, .int .i64 0] 105)).heap[w3.heap.size]? = some (.cells #[.map (some (w.heap.size + 1)), .map (some (w.heap.size + 2)), .int .i64 0, .int .i64 0] 105 (0, 0)) := heap_alloc_new w3 _
  obtain ⟨w4, hw4⟩ : ∃ w4, w3.alloc (.cells #[.map (some (w.heap.size + 1)), .map (some (w.heap.size + 2)), .int .i64 0, .int .i64 0] 105) = w4 := ⟨_, rfl⟩
  rw [hw4] at K4 X4
  have KK : Below w.heap.size w w4 := ((K1.trans (Joins.below_le K2 (by omega))).trans (Joins.below_le K3 (by omega))).trans (Joins.below_le K4 (by omega))
  have tp := T.pos
  have C4 : Cs w4 w3.heap.size (w.heap.size + 1) (w.heap.size + 2) 0 0 (arityN []) zro :=
    ⟨X4, (M2.of_block (K3.block _ (by omega))).of_block (K4.block _ (by omega)), ⟨fun _ => none, M3.of_block (K4.block _ (by omega)), fun s => ⟨rfl, Nat.le_refl _⟩⟩, ⟨by omega, by omega, by omega⟩, T.later KK, ⟨by omega, by omega, by omega⟩⟩
  have kp : Keeps (fun g => g < w.heap.size) (but3 w3.heap.size (w.heap.size + 1) (w.heap.size + 2)) w w4 := keeps_below KK (fun g h => ⟨by omega, by omega, by omega⟩)
  rw [← ed] at ID
  rw [← eb] at IB
  have PR := pprogram_any ds bs C4 gd gb ld lb cd cb xb ed eb (ID.keeps kp) (IB.keeps kp) (isBs_keeps kp _ _ IBS) ok hw
  have XW : Bx w4 w.heap.size #[.slice gd ld cd, .slice gb lb cb] 25 := (K4.block _ (by omega)).trans ((K3.block _ (by omega)).trans ((K2.block _ (by omega)).trans X1))
  have y0 := XW.cell 0
  have y1 := XW.cell 1
  have HK := Hid.mk KK
  have HS := Hid.mk s3
  have r1 : Sem.run Tryz.prog (Instr.makeMap 70 none) w1 = .ok (.map (some (w.heap.size + 1))) w2 := by rw [← hw2, ← s1]; exact run_makeMap _ _
  have r2 : Sem.run Tryz.prog (Instr.makeMap 70 none) w2 = .ok (.map (some (w.heap.size + 2))) w3 := by rw [← hw3, ← s2]; exact run_makeMap _ _
  have HLE : Hid (w.heap.size ≤ w4.heap.size) := ⟨KK.size⟩
  obtain ⟨F, hF⟩ : ∃ F, checkP prN tA ⟨ds, bs⟩ = F := ⟨_, rfl⟩
  rw [hF] at PR ⊢
  generalize ds.length = nd at PR
  generalize bs.length + 2 * nmBs bs = nn at PR
  generalize plus zro (bs.map nameB') = bdd at PR
  have b3 : Hid (w.heap.size ≤ w3.heap.size) := ⟨by omega⟩
  clear T ID IB IBS ok hw K1 K2 K3 K4 X1 X4 M2 M3 C4 kp KK XW tp hF s1 s2 s3 hw2 hw3 ed eb
  subst hw4
  cases F with
  | none =>
    simp only [atF, erF]
    go_enter Tryz.func31, Tryz.ntmps31
    go_wp2_with (go_at_call 36; refine PR.mono ?_; intro e w8 R8; obtain ⟨rfl, G8, C8⟩ := R8.yes'; have HG := Hid.mk (And.intro G8 C8); have z2 : w8.cell? ⟨w3.heap.size, 2, none⟩ = some (.int .i64 0) := C8.cell 2; have z3 : w8.cell? ⟨w3.heap.size, 3, none⟩ = some (.int .i64 0) := C8.cell 3; clear R8 G8 C8)
    go_quiet (fail)
    all_goals go_wp2
    all_goals go_ret2
    all_goals exact ⟨rfl, below_drewN (HK.out.trans (HG.out.1.below b3.out (by omega) (by omega) HLE.out)) _⟩
  | some r =>
    obtain ⟨ra, rc⟩ := r
    simp only [atF, erF]
    go_enter Tryz.func31, Tryz.ntmps31
    go_wp2_with (go_at_call 36; refine PR.mono ?_; intro e w8 R8; obtain ⟨rfl, G8, ⟨v0, v1, C8⟩⟩ := R8.no'; have HG := Hid.mk G8; have z2 : w8.cell? ⟨w3.heap.size, 2, none⟩ = some (.int .i64 ra) := Joins.cell_of_block C8 2; have z3 : w8.cell? ⟨w3.heap.size, 3, none⟩ = some (.int .i64 rc) := Joins.cell_of_block C8 3; clear R8 G8 C8)
    go_quiet (fail)
    all_goals go_wp2
    all_goals go_ret2
    all_goals exact ⟨rfl, below_drewN (HK.out.trans (HG.out.below b3.out (by omega) (by omega) HLE.out)) _⟩
end Go.Proofs.YtbajpejnnfacbaaGreatDoor

/- Package lazy, the plain side: expressions whose names are places, things, what waits, and one step. -/
namespace Go.Proofs.YtbajpejnnfacbaaGreatDoor.Lz
open Go.RowKit
set_option linter.unusedVariables false
set_option linter.unusedSimpArgs false

structure Pl where
  lev : Nat
  idx : Nat
inductive Am where
  | name (p : Pl)
  | num (n : Int)
mutual
/-- an expression whose names are places -/
inductive X where
  | int (n : Int)
  | con (n : Nat) (l : List Am)
  | app (p : Pl) (l : List Am)
  | prim (k : Nat) (l : List Am)
  | lt (bs : List Bd) (kid : X)
  | cs (kid : X) (al : List Ar) (other : List X)
inductive Bd where
  | mk (cl : Int) (args : Nat) (body : X)
inductive Ar where
  | mk (is : Nat) (n : Int) (body : X)
end
/-- where names stand: the innermost scope first -/
abbrev Env := List (List Nat)
inductive T where
  | num (n : Int)
  | con (n : Nat) (l : List Nat)
  | fn (a : Nat) (x : X) (e : Env)
  | part (f : Nat) (l : List Nat)
  | var (t : Nat)
  | arr (l : List Nat)
  | need (x : X) (e : Env)
  | call (f : Nat) (l : List Nat)
  | work
  | failed (e : Int)
  | same (t : Nat)
/-- what waits -/
inductive Fm where
  | same (t : Nat)
  | things (l : List Nat)
  | arms (al : List Ar) (o : List X) (e : Env)
  | prim (k j i : Nat)
/-- what is done next -/
inductive Md where
  | ev (x : X) (e : Env)
  | kn (t : Nat)
  | tl (t : Nat)
  | rest (t : Nat)
  | fail (e : Int)
  | starve
structure St where
  th : List T
  rows : List (List Nat)
  ws : List Fm
  fuel : Nat
  out : List Int
  steps : Nat
  md : Md

def envAt (e : Env) (p : Pl) : Nat := (e.reverse.getD p.lev []).getD p.idx 0
def inE (e : Env) (l : List Nat) : Env := if l.length = 0 then e else l :: e
def atomsP (e : Env) : List Am → List T → List Nat × List T
  | [], th => ([], th)
  | .name p :: r, th => (envAt e p :: (atomsP e r th).1, (atomsP e r th).2)
  | .num n :: r, th => (th.length :: (atomsP e r (th ++ [.num n])).1, (atomsP e r (th ++ [.num n])).2)
def boundP (e : Env) (b : Bd) (th : List T) : T × List T :=
  match b with
  | .mk cl a x =>
    if cl = 3 then (.fn a x e, th)
    else if cl = 1 then (match x with | .con n l => (.con n (atomsP e l th).1, (atomsP e l th).2) | _ => (.num 0, th))
    else if cl = 2 then (match x with | .int n => (.num n, th) | _ => (.num 0, th))
    else (.need x e, th)
def layP (e : Env) : List Bd → Nat → List T → List T
  | [], _, th => th
  | b :: r, i, th => layP e r (i + 1) ((boundP e b th).2.set i (boundP e b th).1)
def groupE (e : Env) (bs : List Bd) (th : List T) : Env := List.range' th.length bs.length :: e
def groupT (e : Env) (bs : List Bd) (th : List T) : List T := layP (groupE e bs th) bs th.length (th ++ List.replicate bs.length (.num 0))

def failAll (e : Int) : List Fm → List T → List T
  | [], th => th
  | .same t :: r, th => failAll e r (th.set t (.failed e))
  | .things _ :: r, th => failAll e r th
  | .arms _ _ _ :: r, th => failAll e r th
  | .prim _ _ _ :: r, th => failAll e r th
def failS (s : St) (e : Int) : St := { s with th := failAll e s.ws.reverse s.th, ws := [], md := .fail e }
def tellNew (s : St) (t : T) : St := { s with th := s.th ++ [t], md := .tl s.th.length }
def thAt (s : St) (t : Nat) : T := s.th.getD t .work
def numOf : T → Int
  | .num n => n
  | .con n _ => n
  | .arr l => l.length
  | _ => 0
def isOf : T → Nat
  | .num _ => 0
  | .con _ _ => 1
  | .fn _ _ _ => 2
  | .part _ _ => 3
  | .var _ => 4
  | .arr _ => 5
  | .need _ _ => 6
  | .call _ _ => 7
  | .work => 8
  | .failed _ => 9
  | .same _ => 10
def withOf : T → List Nat
  | .con _ l => l
  | .part _ l => l
  | .call _ l => l
  | _ => []
def ofT : T → Nat
  | .part f _ => f
  | .var t => t
  | .call f _ => f
  | .same t => t
  | _ => 0
def itemsT : T → List Nat
  | .arr l => l
  | _ => []
def unlikeT (t : T) (need : Int) : Int := if need = 2 ∧ isOf t ≠ 0 then 41 else if (need = 3 ∧ isOf t ≠ 4) ∨ (need = 4 ∧ isOf t ≠ 5) then 44 else 0
def primS (s : St) (k : Nat) (l : List Nat) : St :=
  if k = 8 then { s with out := s.out ++ [numOf (thAt s (l.getD 0 0))], md := .tl (l.getD 0 0) }
  else if k = 9 then { s with md := .kn (l.getD 1 0) }
  else if k = 10 then tellNew s (.var (l.getD 0 0))
  else if k = 11 then { s with md := .kn (ofT (thAt s (l.getD 0 0))) }
  else if k = 12 then tellNew { s with th := s.th.set (l.getD 0 0) (.var (l.getD 1 0)) } (.num 0)
  else if k = 13 then
    (if numOf (thAt s (l.getD 0 0)) < 0 ∨ 1024 < numOf (thAt s (l.getD 0 0)) then failS s 46 else tellNew s (.arr (List.replicate (numOf (thAt s (l.getD 0 0))).toNat (l.getD 1 0))))
  else if k = 14 then
    (if 0 ≤ numOf (thAt s (l.getD 1 0)) ∧ numOf (thAt s (l.getD 1 0)) < numOf (thAt s (l.getD 0 0)) then { s with md := .kn ((itemsT (thAt s (l.getD 0 0))).getD (numOf (thAt s (l.getD 1 0))).toNat 0) } else failS s 45)
  else if k = 15 then
    (if 0 ≤ numOf (thAt s (l.getD 1 0)) ∧ numOf (thAt s (l.getD 1 0)) < numOf (thAt s (l.getD 0 0)) then
      tellNew { s with th := s.th.set (l.getD 0 0) (.arr ((itemsT (thAt s (l.getD 0 0))).set (numOf (thAt s (l.getD 1 0))).toNat (l.getD 2 0))) } (.num 0) else failS s 45)
  else if k = 16 then tellNew s (.num (numOf (thAt s (l.getD 0 0))))
  else (if (doI k (numOf (thAt s (l.getD 0 0))) (numOf (thAt s (l.getD 1 0)))).2 = 0 then tellNew s (.num (doI k (numOf (thAt s (l.getD 0 0))) (numOf (thAt s (l.getD 1 0)))).1)
    else failS s (doI k (numOf (thAt s (l.getD 0 0))) (numOf (thAt s (l.getD 1 0)))).2)
def argsF (s : St) (k j : Nat) : List Nat → Nat → St
  | [], _ => primS s k (s.rows.getD j [])
  | t :: r, i => if needI k i = 0 then argsF s k j r (i + 1) else { s with ws := .prim k j i :: s.ws, md := .kn t }
def argsS (s : St) (k j i : Nat) : St := argsF s k j ((s.rows.getD j []).drop i) i
def knowS (s : St) (t : Nat) : St :=
  match thAt s t with
  | .same u => { s with md := .tl u }
  | .failed e => failS s e
  | .work => failS s 47
  | .need x e => { s with th := s.th.set t .work, ws := .same t :: s.ws, md := .ev x e }
  | .call f l => { s with th := s.th.set t .work, ws := .things l :: .same t :: s.ws, md := .kn f }
  | _ => { s with md := .tl t }
def evalX (s : St) (x : X) (e : Env) : St :=
  match x with
  | .int n => tellNew s (.num n)
  | .con n l => tellNew { s with th := (atomsP e l s.th).2 } (.con n (atomsP e l s.th).1)
  | .app p l => if l.length = 0 then { s with md := .kn (envAt e p) } else { s with th := (atomsP e l s.th).2, ws := .things (atomsP e l s.th).1 :: s.ws, md := .kn (envAt e p) }
  | .lt bs kid => { s with th := groupT e bs s.th, md := .ev kid (groupE e bs s.th) }
  | .cs kid al o => { s with ws := .arms al o e :: s.ws, md := .ev kid e }
  | .prim k l => argsS { s with th := (atomsP e l s.th).2, rows := s.rows ++ [(atomsP e l s.th).1] } k s.rows.length 0
def evalS (s : St) (x : X) (e : Env) : St :=
  if s.fuel = 0 then { s with md := .starve } else evalX { s with fuel := s.fuel - 1, steps := s.steps + 1 } x e
def enterF (s : St) (f : Nat) (l : List Nat) : St :=
  match thAt s f with
  | .fn a x e => if l.length < a then tellNew s (.part f l) else if a < l.length then { s with ws := .things (l.drop a) :: s.ws, md := .ev x (inE e (l.take a)) } else { s with md := .ev x (inE e (l.take a)) }
  | _ => failS s 43
def enterS (s : St) (t : Nat) (l : List Nat) : St :=
  match thAt s t with
  | .part f m => enterF s f (m ++ l)
  | _ => enterF s t l
def armOf : List Ar → Nat → Int → Option X
  | [], _, _ => none
  | .mk i m x :: r, is, n => if i = is ∧ m = n then some x else armOf r is n
def chooseS (s : St) (t : Nat) (al : List Ar) (o : List X) (e : Env) : St :=
  match armOf al (isOf (thAt s t)) (numOf (thAt s t)) with
  | some x => { s with md := .ev x (inE e (withOf (thAt s t))) }
  | none => match o with
    | x :: _ => { s with md := .ev x ([t] :: e) }
    | [] => failS s 42
def argumentS (s : St) (t k j i : Nat) : St :=
  if unlikeT (thAt s t) (needI k i) = 0 then argsS { s with rows := s.rows.set j ((s.rows.getD j []).set i t) } k j (i + 1) else failS s (unlikeT (thAt s t) (needI k i))
def tellS (s : St) (t : Nat) : St :=
  match s.ws with
  | [] => { s with md := .rest t }
  | .same u :: r => { s with th := s.th.set u (.same t), ws := r, md := .tl t }
  | .things l :: r => enterS { s with ws := r } t l
  | .arms al o e :: r => chooseS { s with ws := r } t al o e
  | .prim k j i :: r => argumentS { s with ws := r } t k j i
def step (s : St) : St :=
  match s.md with
  | .ev x e => evalS s x e
  | .kn t => knowS s t
  | .tl t => tellS s t
  | _ => s
def pushN (n : Nat) (sh : List Nat) : List Nat := if n = 0 then sh else n :: sh
def okP (sh : List Nat) (p : Pl) : Prop := p.lev < sh.length ∧ p.idx < sh.reverse.getD p.lev 0
def okAm (sh : List Nat) : Am → Prop
  | .name p => okP sh p
  | .num n => isI n
def isConX : X → Prop
  | .con _ _ => True
  | _ => False
def isIntX : X → Prop
  | .int _ => True
  | _ => False
section
variable (ar : List Nat)
mutual
def okX (sh : List Nat) : X → Prop
  | .int n => isI n
  | .con n l => n < ar.length ∧ l.length = ar.getD n 0 ∧ ∀ a ∈ l, okAm sh a
  | .app p l => okP sh p ∧ l.length ≤ 8 ∧ ∀ a ∈ l, okAm sh a
  | .prim k l => 1 ≤ k ∧ k ≤ 16 ∧ (l.length : Int) = tA k ∧ ∀ a ∈ l, okAm sh a
  | .lt bs kid => bs.length ≠ 0 ∧ okBs (bs.length :: sh) bs ∧ okX (bs.length :: sh) kid ∧ sh.length + 1 ≤ 1000000000
  | .cs kid al o => okX sh kid ∧ okArs sh al ∧ okXs (1 :: sh) o ∧ sh.length + 1 ≤ 1000000000
def okBs (sh : List Nat) : List Bd → Prop
  | [] => True
  | .mk cl a x :: r => ((cl = 3 ↔ 0 < a) ∧ a ≤ 8 ∧ (cl = 1 → isConX x) ∧ (cl = 2 → isIntX x) ∧ okX (pushN a sh) x ∧ sh.length + 1 ≤ 1000000000) ∧ okBs sh r
def okArs (sh : List Nat) : List Ar → Prop
  | [] => True
  | .mk i n x :: r => ((i = 0 ∧ isI n ∧ okX sh x) ∨ (i = 1 ∧ 0 ≤ n ∧ n.toNat < ar.length ∧ okX (pushN (ar.getD n.toNat 0) sh) x)) ∧ okArs sh r
def okXs (sh : List Nat) : List X → Prop
  | [] => True
  | x :: r => okX sh x ∧ okXs sh r
end
end
def shE (e : Env) : List Nat := e.map List.length
def okL (N : Nat) (l : List Nat) : Prop := ∀ t ∈ l, t < N
def okE (N : Nat) (e : Env) : Prop := e ≠ [] ∧ (∀ l ∈ e, okL N l) ∧ e.length ≤ 1000000000
def isVal (t : T) : Prop := isOf t ≤ 5
def okT (ar : List Nat) (th : List T) : T → Prop
  | .num n => isI n
  | .con n l => n < ar.length ∧ l.length = ar.getD n 0 ∧ okL th.length l
  | .fn a x e => 0 < a ∧ a ≤ 8 ∧ okE th.length e ∧ okX ar (pushN a (shE e)) x ∧ e.length + 1 ≤ 1000000000
  | .part f l => (∃ a x e, th[f]? = some (.fn a x e) ∧ l.length < a ∧ a ≤ 8 ∧ l.length ≠ 0) ∧ okL th.length l
  | .var t => t < th.length
  | .arr l => l.length ≤ 1024 ∧ okL th.length l
  | .need x e => okE th.length e ∧ okX ar (shE e) x
  | .call f l => f < th.length ∧ l.length ≠ 0 ∧ l.length ≤ 8 ∧ okL th.length l
  | .work => True
  | .failed e => 0 < e ∧ e ≤ 100
  | .same t => ∃ v, th[t]? = some v ∧ isVal v
/-- what becomes of a thing: values stay what they are -/
def rel (t t' : T) : Prop :=
  (∃ u u', t = .var u ∧ t' = .var u') ∨ (∃ l l', t = .arr l ∧ t' = .arr l' ∧ l.length = l'.length) ∨ (isVal t → t' = t)
def Ext (th th' : List T) : Prop := th.length ≤ th'.length ∧ ∀ (i : Nat) t, th[i]? = some t → ∃ t', th'[i]? = some t' ∧ rel t t'
def Known (th : List T) (t : Nat) (need : Int) : Prop := ∃ v, th[t]? = some v ∧ (need ≠ 0 → isVal v) ∧ unlikeT v need = 0
def okFm (ar : List Nat) (th : List T) (rows : List (List Nat)) : Fm → Prop
  | .same t => th[t]? = some .work
  | .things l => l.length ≠ 0 ∧ l.length ≤ 8 ∧ okL th.length l
  | .arms al o e => okE th.length e ∧ okArs ar (shE e) al ∧ okXs ar (1 :: shE e) o ∧ e.length + 1 ≤ 1000000000
  | .prim k j i => 1 ≤ k ∧ k ≤ 16 ∧ (i : Int) < tA k ∧ ∃ l, rows[j]? = some l ∧ (l.length : Int) = tA k ∧ okL th.length l ∧ ∀ m : Nat, m < i → Known th (l.getD m 0) (needI k m)
def okMd (ar : List Nat) (th : List T) : Md → Prop
  | .ev x e => okE th.length e ∧ okX ar (shE e) x
  | .kn t => t < th.length
  | .tl t => ∃ v, th[t]? = some v ∧ isVal v
  | .rest t => ∃ v, th[t]? = some v ∧ isVal v
  | .fail e => 0 < e ∧ e ≤ 100
  | .starve => True
def rowId : Fm → Option Nat
  | .prim _ j _ => some j
  | _ => none
def workId : Fm → Option Nat
  | .same t => some t
  | _ => none
structure Good (ar : List Nat) (s : St) : Prop where
  th : ∀ (i : Nat) t, s.th[i]? = some t → okT ar s.th t
  ws : ∀ f ∈ s.ws, okFm ar s.th s.rows f
  md : okMd ar s.th s.md
  rj : (s.ws.filterMap rowId).Nodup
  wj : (s.ws.filterMap workId).Nodup
  ou : ∀ n ∈ s.out, isI n
def isCall : T → Bool
  | .call _ _ => true
  | _ => false
def mF : Fm → Nat
  | .same _ => 1
  | .things l => 10 * l.length
  | .arms _ _ _ => 10
  | .prim _ _ i => 10 * (4 - i)
def mM : Md → Nat
  | .ev _ _ => 2
  | .kn _ => 4
  | .tl _ => 1
  | _ => 0
def meas (s : St) : Nat := 100 * s.fuel + 100 * s.th.countP isCall + (s.ws.map mF).sum + mM s.md
def fin : Md → Bool
  | .rest _ => true
  | .fail _ => true
  | .starve => true
  | _ => false

theorem rel_refl (t : T) : rel t t := .inr (.inr fun _ => rfl)
theorem rel_val {t t' : T} (h : rel t t') (v : isVal t) : isVal t' ∧ isOf t' = isOf t := by
  rcases h with ⟨u, u', rfl, rfl⟩ | ⟨l, l', rfl, rfl, _⟩ | h
  · exact ⟨by simp [isVal, isOf], rfl⟩
  · exact ⟨by simp [isVal, isOf], rfl⟩
  · rw [h v]; exact ⟨v, rfl⟩
theorem rel_num {t t' : T} (h : rel t t') (v : isVal t) : numOf t' = numOf t := by
  rcases h with ⟨u, u', rfl, rfl⟩ | ⟨l, l', rfl, rfl, e⟩ | h
  · rfl
  · simp [numOf, e]
  · rw [h v]
theorem rel_trans {a b c : T} (h : rel a b) (k : rel b c) : rel a c := by
  by_cases v : isVal a
  · have v2 := (rel_val h v).1
    rcases h with ⟨u, u', rfl, rfl⟩ | ⟨l, l', rfl, rfl, e⟩ | h
    · rcases k with ⟨x, y, hx, rfl⟩ | ⟨x, y, hx, _⟩ | k
      · exact .inl ⟨_, _, rfl, rfl⟩
      · cases hx
      · rw [k v2]; exact .inl ⟨_, _, rfl, rfl⟩
    · rcases k with ⟨x, y, hx, _⟩ | ⟨x, y, hx, rfl, e2⟩ | k
      · cases hx
      · cases hx; exact .inr (.inl ⟨_, _, rfl, rfl, e.trans e2⟩)
      · rw [k v2]; exact .inr (.inl ⟨_, _, rfl, rfl, e⟩)
    · rw [h v] at k; exact k
  · exact .inr (.inr fun z => absurd z v)
theorem Ext.refl (th : List T) : Ext th th := ⟨Nat.le_refl _, fun i t h => ⟨t, h, rel_refl t⟩⟩
theorem Ext.trans {a b c : List T} (h : Ext a b) (k : Ext b c) : Ext a c :=
  ⟨Nat.le_trans h.1 k.1, fun i t hi => by obtain ⟨t1, h1, r1⟩ := h.2 i t hi; obtain ⟨t2, h2, r2⟩ := k.2 i t1 h1; exact ⟨t2, h2, rel_trans r1 r2⟩⟩
theorem Ext.app (th l : List T) : Ext th (th ++ l) := ⟨by simp, fun i t h => ⟨t, by rw [List.getElem?_append_left (List.getElem?_eq_some_iff.1 h).1]; exact h, rel_refl t⟩⟩
theorem Ext.set (th : List T) (i : Nat) (t' : T) (h : ∀ t, th[i]? = some t → rel t t') : Ext th (th.set i t') :=
  ⟨by simp, fun j t hj => by
    by_cases e : i = j
    · subst e
      exact ⟨t', by rw [List.getElem?_set_self (List.getElem?_eq_some_iff.1 hj).1], h t hj⟩
    · exact ⟨t, by rw [List.getElem?_set_ne e]; exact hj, rel_refl t⟩⟩
theorem okL.mono {N M : Nat} {l : List Nat} (h : okL N l) (k : N ≤ M) : okL M l := fun t ht => Nat.lt_of_lt_of_le (h t ht) k
theorem okE.mono {N M : Nat} {e : Env} (h : okE N e) (k : N ≤ M) : okE M e := ⟨h.1, fun l hl => (h.2.1 l hl).mono k, h.2.2⟩
theorem Ext.val {a b : List T} (h : Ext a b) {t : Nat} (k : ∃ v, a[t]? = some v ∧ isVal v) : ∃ v, b[t]? = some v ∧ isVal v := by
  obtain ⟨v, hv, z⟩ := k
  obtain ⟨v', hv', r⟩ := h.2 t v hv
  exact ⟨v', hv', (rel_val r z).1⟩
theorem Ext.fn {p q : List T} (h : Ext p q) {f a : Nat} {x : X} {e : Env} (k : p[f]? = some (.fn a x e)) : q[f]? = some (.fn a x e) := by
  obtain ⟨v', hv', r⟩ := h.2 f _ k
  rcases r with ⟨u, u', hu, _⟩ | ⟨u, u', hu, _⟩ | r
  · cases hu
  · cases hu
  · rw [hv', r (by simp [isVal, isOf])]
theorem okT.ext {ar : List Nat} {a b : List T} (h : Ext a b) : ∀ t, okT ar a t → okT ar b t
  | .num _, k => k
  | .con _ _, k => ⟨k.1, k.2.1, k.2.2.mono h.1⟩
  | .fn _ _ _, k => ⟨k.1, k.2.1, k.2.2.1.mono h.1, k.2.2.2⟩
  | .part f l, ⟨⟨a, x, e, k1, k2⟩, k3⟩ => ⟨⟨a, x, e, h.fn k1, k2⟩, k3.mono h.1⟩
  | .var t, k => Nat.lt_of_lt_of_le k h.1
  | .arr _, k => ⟨k.1, k.2.mono h.1⟩
  | .need _ _, k => ⟨k.1.mono h.1, k.2⟩
  | .call _ _, k => ⟨Nat.lt_of_lt_of_le k.1 h.1, k.2.1, k.2.2.1, k.2.2.2.mono h.1⟩
  | .work, _ => trivial
  | .failed _, k => k
  | .same t, k => h.val k
theorem Known.ext {a b : List T} (h : Ext a b) {t : Nat} {need : Int} (k : Known a t need) : Known b t need := by
  obtain ⟨v, h1, h2, h3⟩ := k
  obtain ⟨v', hv', r⟩ := h.2 t v h1
  by_cases z : need = 0
  · exact ⟨v', hv', fun e => absurd z e, by simp [unlikeT, z]⟩
  · have q := rel_val r (h2 z)
    exact ⟨v', hv', fun _ => q.1, by unfold unlikeT at h3 ⊢; rw [q.2]; exact h3⟩
theorem okFm.ext {ar : List Nat} {a b : List T} (h : Ext a b) {rows : List (List Nat)} : ∀ f, (∀ t, workId f = some t → b[t]? = a[t]?) → okFm ar a rows f → okFm ar b rows f
  | .same t, w, k => (w t rfl).trans k
  | .things _, _, k => ⟨k.1, k.2.1, k.2.2.mono h.1⟩
  | .arms _ _ _, _, k => ⟨k.1.mono h.1, k.2⟩
  | .prim _ _ _, _, ⟨k1, k2, k3, l, k4, k5, k6, k7⟩ => ⟨k1, k2, k3, l, k4, k5, k6.mono h.1, fun m hm => (k7 m hm).ext h⟩
end Go.Proofs.YtbajpejnnfacbaaGreatDoor.Lz

/- Package lazy, the plain side: a step keeps what is good, and there is an end. -/
namespace Go.Proofs.YtbajpejnnfacbaaGreatDoor.Lz
open Go.RowKit
set_option linter.unusedVariables false
set_option linter.unusedSimpArgs false

theorem count_set_le (t : T) (ht : isCall t = false) : ∀ (l : List T) (i : Nat), (l.set i t).countP isCall ≤ l.countP isCall
  | [], i => by simp
  | x :: r, 0 => by simp [List.countP_cons, ht]
  | x :: r, i + 1 => by simp only [List.set_cons_succ, List.countP_cons]; have := count_set_le t ht r i; omega
theorem count_set_call {f : Nat} {m : List Nat} (t : T) (ht : isCall t = false) : ∀ (l : List T) (i : Nat), l[i]? = some (.call f m) → (l.set i t).countP isCall + 1 ≤ l.countP isCall
  | [], i, h => by simp at h
  | x :: r, 0, h => by simp at h; subst h; rw [List.set_cons_zero, List.countP_cons, List.countP_cons, ht, show isCall (.call f m) = true from rfl]; simp
  | x :: r, i + 1, h => by simp only [List.set_cons_succ, List.countP_cons]; have := count_set_call t ht r i (by simpa using h); omega
theorem getD_lt {l : List Nat} {N : Nat} (h : okL N l) {i : Nat} (k : i < l.length) (d : Nat) : l.getD i d < N := by
  rw [List.getD_eq_getElem?_getD, List.getElem?_eq_getElem k]
  exact h _ (List.getElem_mem k)
theorem envAt_lt {N : Nat} {e : Env} {p : Pl} (h : okE N e) (k : okP (shE e) p) : envAt e p < N := by
  obtain ⟨k1, k2⟩ := k
  unfold shE at k1 k2
  rw [List.length_map] at k1
  have k3 : p.lev < e.reverse.length := by simpa using k1
  rw [← List.map_reverse, List.getD_eq_getElem?_getD, List.getElem?_map, List.getElem?_eq_getElem k3] at k2
  unfold envAt
  have e1 : e.reverse.getD p.lev [] = e.reverse[p.lev]'k3 := by rw [List.getD_eq_getElem?_getD, List.getElem?_eq_getElem k3]; rfl
  rw [e1]
  exact getD_lt (h.2.1 _ (List.mem_reverse.1 (List.getElem_mem k3))) (by simpa using k2) 0
theorem atomsP_th (e : Env) (sh : List Nat) : ∀ (l : List Am) (th : List T), (∀ a ∈ l, okAm sh a) → ∃ l', (atomsP e l th).2 = th ++ l' ∧ ∀ t ∈ l', ∃ n, t = .num n ∧ isI n
  | [], th, _ => ⟨[], by simp [atomsP], fun t h => by simp at h⟩
  | .name p :: r, th, h => by
    obtain ⟨l', e1, e2⟩ := atomsP_th e sh r th (fun a ha => h a (List.mem_cons_of_mem _ ha))
    exact ⟨l', by simpa [atomsP] using e1, e2⟩
  | .num n :: r, th, h => by
    obtain ⟨l', e1, e2⟩ := atomsP_th e sh r (th ++ [.num n]) (fun a ha => h a (List.mem_cons_of_mem _ ha))
    refine ⟨.num n :: l', by simpa [atomsP] using e1, fun t ht => ?_⟩
    rcases List.mem_cons.1 ht with rfl | ht
    · exact ⟨n, rfl, h _ (List.mem_cons_self ..)⟩
    · exact e2 t ht
theorem atomsP_len (e : Env) : ∀ (l : List Am) (th : List T), (atomsP e l th).1.length = l.length
  | [], th => rfl
  | .name p :: r, th => by simp [atomsP, atomsP_len e r th]
  | .num n :: r, th => by simp [atomsP, atomsP_len e r]
theorem atomsP_ok {e : Env} : ∀ (l : List Am) (th : List T), okE th.length e → (∀ a ∈ l, okAm (shE e) a) → okL (atomsP e l th).2.length (atomsP e l th).1
  | [], th, _, _ => by simp [atomsP, okL]
  | .name p :: r, th, he, h => by
    have ih := atomsP_ok r th he (fun a ha => h a (List.mem_cons_of_mem _ ha))
    obtain ⟨l', e1, _⟩ := atomsP_th e (shE e) r th (fun a ha => h a (List.mem_cons_of_mem _ ha))
    intro t ht
    simp only [atomsP] at ht ⊢
    rcases List.mem_cons.1 ht with rfl | ht
    · rw [e1]
      have := envAt_lt he (show okP (shE e) p from h _ (List.mem_cons_self ..))
      simp; omega
    · exact ih t ht
  | .num n :: r, th, he, h => by
    have ih := atomsP_ok r (th ++ [.num n]) (he.mono (by simp)) (fun a ha => h a (List.mem_cons_of_mem _ ha))
    obtain ⟨l', e1, _⟩ := atomsP_th e (shE e) r (th ++ [.num n]) (fun a ha => h a (List.mem_cons_of_mem _ ha))
    intro t ht
    simp only [atomsP] at ht ⊢
    rcases List.mem_cons.1 ht with rfl | ht
    · rw [e1]; simp
    · exact ih t ht
/-- things that are laid -/
def okS (ar : List Nat) (N : Nat) : T → Prop
  | .num n => isI n
  | .con n l => n < ar.length ∧ l.length = ar.getD n 0 ∧ okL N l
  | .fn a x e => 0 < a ∧ a ≤ 8 ∧ okE N e ∧ okX ar (pushN a (shE e)) x ∧ e.length + 1 ≤ 1000000000
  | .need x e => okE N e ∧ okX ar (shE e) x
  | _ => False
theorem okS.mono {ar : List Nat} {N M : Nat} (k : N ≤ M) : ∀ t, okS ar N t → okS ar M t
  | .num _, h => h
  | .con _ _, h => ⟨h.1, h.2.1, h.2.2.mono k⟩
  | .fn _ _ _, h => ⟨h.1, h.2.1, h.2.2.1.mono k, h.2.2.2⟩
  | .need _ _, h => ⟨h.1.mono k, h.2⟩
  | .part _ _, h => h.elim
  | .var _, h => h.elim
  | .arr _, h => h.elim
  | .call _ _, h => h.elim
  | .work, h => h.elim
  | .failed _, h => h.elim
  | .same _, h => h.elim
theorem okS.ok {ar : List Nat} {th : List T} : ∀ t, okS ar th.length t → okT ar th t
  | .num _, h => h
  | .con _ _, h => h
  | .fn _ _ _, h => h
  | .need _ _, h => h
  | .part _ _, h => h.elim
  | .var _, h => h.elim
  | .arr _, h => h.elim
  | .call _ _, h => h.elim
  | .work, h => h.elim
  | .failed _, h => h.elim
  | .same _, h => h.elim
theorem okS.call {ar : List Nat} {N : Nat} {t : T} (h : okS ar N t) : isCall t = false := by cases t <;> first | rfl | exact h.elim
theorem boundP_ok {ar : List Nat} {e : Env} {cl : Int} {a : Nat} {x : X} {th : List T} (he : okE th.length e) (h : (cl = 3 ↔ 0 < a) ∧ a ≤ 8 ∧ (cl = 1 → isConX x) ∧ (cl = 2 → isIntX x) ∧ okX ar (pushN a (shE e)) x ∧ (shE e).length + 1 ≤ 1000000000) :
    ∃ l', (boundP e (.mk cl a x) th).2 = th ++ l' ∧ (∀ t ∈ l', ∃ n, t = .num n ∧ isI n) ∧ okS ar (boundP e (.mk cl a x) th).2.length (boundP e (.mk cl a x) th).1 := by
  obtain ⟨h1, h2, h3, h4, h5, h6⟩ := h
  rw [show (shE e).length = e.length by simp [shE]] at h6
  unfold boundP
  by_cases c3 : cl = 3
  · simp only [c3, if_true]
    exact ⟨[], by simp, fun t h => by simp at h, h1.1 c3, h2, he, h5, h6⟩
  · have a0 : a = 0 := by rcases Nat.eq_zero_or_pos a with z | z; exact z; exact absurd (h1.2 z) c3
    rw [a0] at h5
    simp only [c3, if_false]
    by_cases c1 : cl = 1
    · simp only [c1, if_true]
      have := h3 c1
      cases x <;> simp only [isConX] at this
      rename_i n l
      simp only [pushN, if_true, okX] at h5
      obtain ⟨l', e1, e2⟩ := atomsP_th e (shE e) l th h5.2.2
      exact ⟨l', e1, e2, h5.1, by rw [atomsP_len]; exact h5.2.1, atomsP_ok l th he h5.2.2⟩
    · simp only [c1, if_false]
      by_cases c2 : cl = 2
      · simp only [c2, if_true]
        have := h4 c2
        cases x <;> simp only [isIntX] at this
        rename_i n
        simp only [pushN, if_true, okX] at h5
        exact ⟨[], by simp, fun t h => by simp at h, h5⟩
      · simp only [c2, if_false]
        simp only [pushN, if_true] at h5
        exact ⟨[], by simp, fun t h => by simp at h, he, h5⟩
theorem layP_ok {ar : List Nat} {e : Env} (th : List T) : ∀ (bs : List Bd) (i : Nat) (l : List T), okE (th ++ l).length e → okBs ar (shE e) bs → th.length ≤ i → i + bs.length ≤ (th ++ l).length → (∀ t ∈ l, okS ar (th ++ l).length t) →
    ∃ l', layP e bs i (th ++ l) = th ++ l' ∧ l.length ≤ l'.length ∧ ∀ t ∈ l', okS ar (th ++ l').length t
  | [], i, l, he, hb, hi, hl, ho => ⟨l, by simp [layP], Nat.le_refl _, ho⟩
  | .mk cl a x :: r, i, l, he, hb, hi, hl, ho => by
    simp only [okBs] at hb
    obtain ⟨l1, e1, e2, e3⟩ := boundP_ok he hb.1
    have e4 : ((boundP e (.mk cl a x) (th ++ l)).2.set i (boundP e (.mk cl a x) (th ++ l)).1) = th ++ (l ++ l1).set (i - th.length) (boundP e (.mk cl a x) (th ++ l)).1 := by
      rw [e1, List.append_assoc, List.set_append_right _ _ hi]
    have ln : ((l ++ l1).set (i - th.length) (boundP e (.mk cl a x) (th ++ l)).1).length = l.length + l1.length := by simp
    have N1 : (th ++ (l ++ l1).set (i - th.length) (boundP e (.mk cl a x) (th ++ l)).1).length = (boundP e (.mk cl a x) (th ++ l)).2.length := by rw [e1]; simp
    obtain ⟨l', f1, f2, f3⟩ := layP_ok th r (i + 1) ((l ++ l1).set (i - th.length) (boundP e (.mk cl a x) (th ++ l)).1) (he.mono (by simp)) hb.2 (by omega) (by simp at hl ⊢; omega) (fun t ht => by
      rw [N1]
      rcases List.mem_or_eq_of_mem_set ht with ht | rfl
      · rcases List.mem_append.1 ht with ht | ht
        · exact okS.mono (by rw [e1]; simp) t (ho t ht)
        · obtain ⟨n, rfl, hn⟩ := e2 t ht
          exact hn
      · exact e3)
    refine ⟨l', ?_, by omega, f3⟩
    rw [layP, e4]
    exact f1
theorem groupT_ok {ar : List Nat} {e : Env} {bs : List Bd} {th : List T} (he : okE th.length e) (hn : e.length + 1 ≤ 1000000000) (hb : okBs ar (bs.length :: shE e) bs) :
    ∃ l', groupT e bs th = th ++ l' ∧ bs.length ≤ l'.length ∧ (∀ t ∈ l', okS ar (th ++ l').length t) := by
  have e0 : okE (th ++ List.replicate bs.length (T.num 0)).length (groupE e bs th) := by
    refine ⟨by simp [groupE], fun l hl => ?_, by simpa [groupE] using hn⟩
    rcases List.mem_cons.1 hl with rfl | hl
    · intro t ht
      rw [List.mem_range'] at ht
      obtain ⟨i, hi, rfl⟩ := ht
      simp; omega
    · exact (he.2.1 l hl).mono (by simp)
  have e1 : shE (groupE e bs th) = bs.length :: shE e := by simp [shE, groupE]
  obtain ⟨l', f1, f2, f3⟩ := layP_ok (ar := ar) th bs th.length (List.replicate bs.length (T.num 0)) e0 (by rw [e1]; exact hb) (Nat.le_refl _) (by simp) (fun t ht => by
    obtain ⟨_, rfl⟩ := List.mem_replicate.1 ht
    exact ⟨by decide, by decide⟩)
  exact ⟨l', f1, by simpa using f2, f3⟩
theorem groupE_ok {e : Env} {bs : List Bd} {th l : List T} (he : okE th.length e) (hn : e.length + 1 ≤ 1000000000) (hl : bs.length ≤ l.length) : okE (th ++ l).length (groupE e bs th) := by
  refine ⟨by simp [groupE], fun m hm => ?_, by simpa [groupE] using hn⟩
  rcases List.mem_cons.1 hm with rfl | hm
  · intro t ht
    rw [List.mem_range'] at ht
    obtain ⟨i, hi, rfl⟩ := ht
    simp; omega
  · exact (he.2.1 m hm).mono (by simp)
theorem shE_group {e : Env} {bs : List Bd} {th : List T} : shE (groupE e bs th) = bs.length :: shE e := by simp [shE, groupE]
theorem shE_len (e : Env) : (shE e).length = e.length := by simp [shE]
theorem shE_in {e : Env} {l : List Nat} : shE (inE e l) = pushN l.length (shE e) := by
  unfold inE pushN
  by_cases h : l.length = 0
  · rw [if_pos h, if_pos h]
  · rw [if_neg h, if_neg h]; rfl
theorem inE_ok {N : Nat} {e : Env} {l : List Nat} (he : okE N e) (hn : e.length + 1 ≤ 1000000000) (hl : okL N l) : okE N (inE e l) := by
  unfold inE
  by_cases h : l.length = 0
  · rw [if_pos h]; exact he
  · rw [if_neg h]
    refine ⟨by simp, fun m hm => ?_, by simpa using hn⟩
    rcases List.mem_cons.1 hm with rfl | hm
    · exact hl
    · exact he.2.1 m hm
def okAll (ar : List Nat) (th : List T) : Prop := ∀ (i : Nat) t, th[i]? = some t → okT ar th t
theorem okAll.app {ar : List Nat} {th l : List T} (h : okAll ar th) (k : ∀ t ∈ l, okT ar (th ++ l) t) : okAll ar (th ++ l) := fun i t hi => by
  by_cases z : i < th.length
  · rw [List.getElem?_append_left z] at hi
    exact okT.ext (Ext.app th l) t (h i t hi)
  · rw [List.getElem?_append_right (by omega)] at hi
    exact k t (List.mem_of_getElem? hi)
theorem okAll.set {ar : List Nat} {th : List T} {i : Nat} {t' : T} (h : okAll ar th) (hx : Ext th (th.set i t')) (k : okT ar (th.set i t') t') : okAll ar (th.set i t') := fun j t hj => by
  by_cases e : i = j
  · subst e
    have : i < th.length := by have := (List.getElem?_eq_some_iff.1 hj).1; simpa using this
    rw [List.getElem?_set_self this] at hj
    cases hj
    exact k
  · rw [List.getElem?_set_ne e] at hj
    exact okT.ext hx t (h j t hj)
/-- all but what is done next -/
structure Gd (ar : List Nat) (s : St) : Prop where
  th : okAll ar s.th
  ws : ∀ f ∈ s.ws, okFm ar s.th s.rows f
  rj : (s.ws.filterMap rowId).Nodup
  wj : (s.ws.filterMap workId).Nodup
  ou : ∀ n ∈ s.out, isI n
theorem Good.gd {ar : List Nat} {s : St} (h : Good ar s) : Gd ar s := ⟨h.th, h.ws, h.rj, h.wj, h.ou⟩
theorem Gd.good {ar : List Nat} {s : St} (h : Gd ar s) (m : okMd ar s.th s.md) : Good ar s := ⟨h.th, h.ws, m, h.rj, h.wj, h.ou⟩
section
variable {ar : List Nat} {s : St}
theorem Gd.next (h : Gd ar s) {th' : List T} (hx : Ext s.th th') (ha : okAll ar th') (hw : ∀ f ∈ s.ws, ∀ t, workId f = some t → th'[t]? = s.th[t]?) (f : Nat) (o : List Int) (ho : ∀ n ∈ o, isI n) (c : Nat) (m : Md) :
    Gd ar ⟨th', s.rows, s.ws, f, o, c, m⟩ :=
  ⟨ha, fun g hg => okFm.ext hx g (hw g hg) (h.ws g hg), h.rj, h.wj, ho⟩
theorem Gd.same (h : Gd ar s) (f c : Nat) (m : Md) : Gd ar ⟨s.th, s.rows, s.ws, f, s.out, c, m⟩ := ⟨h.th, h.ws, h.rj, h.wj, h.ou⟩
theorem work_app (h : Gd ar s) (l : List T) : ∀ f ∈ s.ws, ∀ t, workId f = some t → (s.th ++ l)[t]? = s.th[t]? := fun f hf t ht => by
  have k := h.ws f hf
  cases f <;> simp only [workId] at ht
  · cases ht
    simp only [okFm] at k
    exact List.getElem?_append_left (List.getElem?_eq_some_iff.1 k).1
  all_goals cases ht
theorem work_set (h : Gd ar s) {i : Nat} {v t' : T} (hi : s.th[i]? = some v) (hv : v ≠ .work) : ∀ f ∈ s.ws, ∀ t, workId f = some t → (s.th.set i t')[t]? = s.th[t]? := fun f hf t ht => by
  have k := h.ws f hf
  cases f <;> simp only [workId] at ht
  · cases ht
    simp only [okFm] at k
    refine List.getElem?_set_ne (fun e => ?_)
    subst e
    rw [hi] at k
    cases k
    exact hv rfl
  all_goals cases ht
theorem tellNew_good (h : Gd ar s) (t : T) (ht : okT ar (s.th ++ [t]) t) (hv : isVal t) : Good ar (tellNew s t) :=
  (h.next (Ext.app _ _) (h.th.app (fun x hx => by obtain rfl := List.mem_singleton.1 hx; exact ht)) (work_app h _) s.fuel s.out h.ou s.steps (.tl s.th.length)).good ⟨t, by simp [tellNew], hv⟩
theorem failAll_ok {e : Int} (he : 0 < e ∧ e ≤ 100) : ∀ (ws : List Fm) (th : List T), okAll ar th → (∀ f ∈ ws, ∀ t, workId f = some t → ∃ v, th[t]? = some v ∧ ¬ isVal v) → okAll ar (failAll e ws th) ∧ Ext th (failAll e ws th) ∧ (failAll e ws th).countP isCall ≤ th.countP isCall
  | [], th, h, _ => ⟨h, Ext.refl _, Nat.le_refl _⟩
  | .same t :: r, th, h, k => by
    obtain ⟨v, hv, nv⟩ := k _ (List.mem_cons_self ..) t rfl
    have hx : Ext th (th.set t (.failed e)) := Ext.set th t _ (fun u hu => by rw [hv] at hu; cases hu; exact .inr (.inr fun z => absurd z nv))
    have h1 : okAll ar (th.set t (.failed e)) := h.set hx he
    have k1 : ∀ f ∈ r, ∀ u, workId f = some u → ∃ v, (th.set t (.failed e))[u]? = some v ∧ ¬ isVal v := fun f hf u hu => by
      obtain ⟨v', hv', nv'⟩ := k f (List.mem_cons_of_mem _ hf) u hu
      by_cases z : t = u
      · subst z
        exact ⟨_, List.getElem?_set_self (List.getElem?_eq_some_iff.1 hv).1, by simp [isVal, isOf]⟩
      · exact ⟨v', by rw [List.getElem?_set_ne z]; exact hv', nv'⟩
    obtain ⟨a, b, c⟩ := failAll_ok he r _ h1 k1
    exact ⟨a, hx.trans b, Nat.le_trans c (count_set_le _ rfl _ _)⟩
  | .things _ :: r, th, h, k => failAll_ok he r th h (fun f hf => k f (List.mem_cons_of_mem _ hf))
  | .arms _ _ _ :: r, th, h, k => failAll_ok he r th h (fun f hf => k f (List.mem_cons_of_mem _ hf))
  | .prim _ _ _ :: r, th, h, k => failAll_ok he r th h (fun f hf => k f (List.mem_cons_of_mem _ hf))
theorem fail_work (h : Gd ar s) : ∀ f ∈ s.ws.reverse, ∀ t, workId f = some t → ∃ v, s.th[t]? = some v ∧ ¬ isVal v := fun f hf t ht => by
  have k := h.ws f (List.mem_reverse.1 hf)
  cases f <;> simp only [workId] at ht
  · cases ht
    exact ⟨_, k, by simp [isVal, isOf]⟩
  all_goals cases ht
theorem failS_good (h : Gd ar s) {e : Int} (he : 0 < e ∧ e ≤ 100) : Good ar (failS s e) :=
  ⟨(failAll_ok he _ _ h.th (fail_work h)).1, fun f hf => by simp [failS] at hf, he, by simp [failS], by simp [failS], h.ou⟩
theorem thAt_some {t : Nat} {v : T} (h : s.th[t]? = some v) : thAt s t = v := by unfold thAt; rw [List.getD_eq_getElem?_getD, h]; rfl
theorem th_lt {t : Nat} (h : t < s.th.length) : s.th[t]? = some (thAt s t) := by
  unfold thAt
  rw [List.getD_eq_getElem?_getD, List.getElem?_eq_getElem h]; rfl
theorem knowS_good (h : Gd ar s) {t : Nat} (ht : t < s.th.length) : Good ar (knowS s t) := by
  have e := th_lt ht
  have ok := h.th t _ e
  unfold knowS
  generalize thAt s t = v at *
  have wk : ∀ (x : X) (en : Env), v = .need x en ∨ (∃ f l, v = .call f l) → v ≠ .work := by
    rintro x en (rfl | ⟨f, l, rfl⟩) <;> simp
  have hx : ¬ isVal v → Ext s.th (s.th.set t .work) := fun nv => Ext.set _ _ _ (fun u hu => by rw [e] at hu; cases hu; exact .inr (.inr fun z => absurd z nv))
  have ln : (s.th.set t T.work).length = s.th.length := by simp
  have nw : v ≠ .work → t ∉ s.ws.filterMap workId := fun hv hm => by
    obtain ⟨f, hf, hft⟩ := List.mem_filterMap.1 hm
    have k := h.ws f hf
    cases f <;> simp only [workId] at hft
    · cases hft
      simp only [okFm] at k
      rw [e] at k
      cases k
      exact hv rfl
    all_goals cases hft
  cases v with
  | num n => exact (h.same _ _ _).good ⟨_, e, by simp [isVal, isOf]⟩
  | con n l => exact (h.same _ _ _).good ⟨_, e, by simp [isVal, isOf]⟩
  | fn a x en => exact (h.same _ _ _).good ⟨_, e, by simp [isVal, isOf]⟩
  | part f l => exact (h.same _ _ _).good ⟨_, e, by simp [isVal, isOf]⟩
  | var u => exact (h.same _ _ _).good ⟨_, e, by simp [isVal, isOf]⟩
  | arr l => exact (h.same _ _ _).good ⟨_, e, by simp [isVal, isOf]⟩
  | need x en =>
    have X := hx (by simp [isVal, isOf])
    have g1 := h.next X (h.th.set X trivial) (work_set h e (by simp)) s.fuel s.out h.ou s.steps (.ev x en)
    refine Gd.good ⟨g1.th, fun f hf => ?_, ?_, ?_, h.ou⟩ ⟨by rw [ln]; exact ok.1, ok.2⟩
    · rcases List.mem_cons.1 hf with rfl | hf
      · exact List.getElem?_set_self ht
      · exact g1.ws f hf
    · simp only [List.filterMap_cons, rowId]; exact h.rj
    · simp only [List.filterMap_cons, workId, List.nodup_cons]
      exact ⟨nw (by simp), h.wj⟩
  | call f l =>
    have X := hx (by simp [isVal, isOf])
    have g1 := h.next X (h.th.set X trivial) (work_set h e (by simp)) s.fuel s.out h.ou s.steps (.kn f)
    refine Gd.good ⟨g1.th, fun g hg => ?_, ?_, ?_, h.ou⟩ (by show f < _; rw [ln]; exact ok.1)
    · rcases List.mem_cons.1 hg with rfl | hg
      · exact ⟨ok.2.1, ok.2.2.1, by rw [ln]; exact ok.2.2.2⟩
      · rcases List.mem_cons.1 hg with rfl | hg
        · exact List.getElem?_set_self ht
        · exact g1.ws g hg
    · simp only [List.filterMap_cons, rowId]; exact h.rj
    · simp only [List.filterMap_cons, workId, List.nodup_cons]
      exact ⟨nw (by simp), h.wj⟩
  | work => exact failS_good h (by decide)
  | failed n => exact failS_good h ok
  | same u => exact (h.same _ _ _).good ok
end
section
variable {ar : List Nat} {s : St}
theorem isVal_num {v : T} (h : isOf v = 0) : ∃ n, v = .num n := by cases v <;> simp [isOf] at h; exact ⟨_, rfl⟩
theorem isVal_var {v : T} (h : isOf v = 4) : ∃ n, v = .var n := by cases v <;> simp [isOf] at h; exact ⟨_, rfl⟩
theorem isVal_arr {v : T} (h : isOf v = 5) : ∃ n, v = .arr n := by cases v <;> simp [isOf] at h; exact ⟨_, rfl⟩
theorem Known.num {th : List T} {t : Nat} (h : Known th t 2) : ∃ n, th[t]? = some (.num n) := by
  obtain ⟨v, h1, h2, h3⟩ := h
  unfold unlikeT at h3
  by_cases z : isOf v = 0
  · obtain ⟨n, rfl⟩ := isVal_num z; exact ⟨n, h1⟩
  · rw [if_pos ⟨rfl, z⟩] at h3; cases h3
theorem Known.var {th : List T} {t : Nat} (h : Known th t 3) : ∃ n, th[t]? = some (.var n) := by
  obtain ⟨v, h1, h2, h3⟩ := h
  unfold unlikeT at h3
  by_cases z : isOf v = 4
  · obtain ⟨n, rfl⟩ := isVal_var z; exact ⟨n, h1⟩
  · rw [if_neg (by omega), if_pos (.inl ⟨rfl, z⟩)] at h3; cases h3
theorem Known.arr {th : List T} {t : Nat} (h : Known th t 4) : ∃ n, th[t]? = some (.arr n) := by
  obtain ⟨v, h1, h2, h3⟩ := h
  unfold unlikeT at h3
  by_cases z : isOf v = 5
  · obtain ⟨n, rfl⟩ := isVal_arr z; exact ⟨n, h1⟩
  · rw [if_neg (by omega), if_pos (.inr ⟨rfl, z⟩)] at h3; cases h3
theorem Known.lt {th : List T} {t : Nat} {n : Int} (h : Known th t n) : t < th.length := by
  obtain ⟨v, h1, _⟩ := h
  exact (List.getElem?_eq_some_iff.1 h1).1
theorem Known.val {th : List T} {t : Nat} {n : Int} (h : Known th t n) (k : n ≠ 0) : ∃ v, th[t]? = some v ∧ isVal v := by
  obtain ⟨v, h1, h2, _⟩ := h
  exact ⟨v, h1, h2 k⟩
theorem isI_wrap (x : Int) : isI (wrap64 x) := by unfold isI wrap64; omega
theorem tmod_isI {a b : Int} (h : isI a) : isI (a.tmod b) := by
  have h1 : (a.tmod b).natAbs ≤ a.natAbs := by
    rw [Int.natAbs_tmod]
    exact Nat.mod_le _ _
  have h2 : 0 ≤ a → 0 ≤ a.tmod b := fun z => Int.tmod_nonneg b z
  have h3 : a ≤ 0 → a.tmod b ≤ 0 := fun z => by
    have := Int.tmod_nonneg b (show 0 ≤ -a by omega)
    rw [Int.neg_tmod] at this
    omega
  unfold isI at *
  omega
theorem doI_isI {k : Nat} {a b : Int} (ha : isI a) : isI (doI k a b).1 := by
  unfold doI
  by_cases h : 1 ≤ (k : Int) ∧ (k : Int) ≤ 7
  · rw [if_pos h]
    by_cases z : b = 0 ∧ ((k : Int) = 4 ∨ (k : Int) = 5)
    · rw [if_pos z]; exact ⟨by decide, by decide⟩
    · rw [if_neg z]
      have c : k = 1 ∨ k = 2 ∨ k = 3 ∨ k = 4 ∨ k = 5 ∨ k = 6 ∨ k = 7 := by omega
      rcases c with rfl | rfl | rfl | rfl | rfl | rfl | rfl
      · exact isI_wrap _
      · exact isI_wrap _
      · exact isI_wrap _
      · exact isI_wrap _
      · exact tmod_isI ha
      · show isI (if a = b then 1 else 0)
        split <;> exact ⟨by decide, by decide⟩
      · show isI (if a < b then 1 else 0)
        split <;> exact ⟨by decide, by decide⟩
  · rw [if_neg h]; exact ⟨by decide, by decide⟩
theorem doI_err {k : Nat} {a b : Int} (h : (doI k a b).2 ≠ 0) : 0 < (doI k a b).2 ∧ (doI k a b).2 ≤ 100 := by
  unfold doI at h ⊢
  split at h
  · split at h
    · rename_i p q; rw [if_pos p, if_pos q]; exact ⟨by decide, by decide⟩
    · exact absurd rfl h
  · rename_i p; rw [if_neg p]; exact ⟨by decide, by decide⟩
/-- a primitive's arguments, as they must be -/
def Args (th : List T) (k : Nat) (l : List Nat) : Prop := (l.length : Int) = tA k ∧ okL th.length l ∧ ∀ m : Nat, (m : Int) < tA k → Known th (l.getD m 0) (needI k m)
theorem primS_good (h : Gd ar s) {k : Nat} {l : List Nat} (h1 : 1 ≤ k) (h2 : k ≤ 16) (ha : Args s.th k l) : Good ar (primS s k l) := by
  obtain ⟨al, ao, ak⟩ := ha
  have lt : ∀ m : Nat, (m : Int) < tA k → l.getD m 0 < s.th.length := fun m hm => (ak m hm).lt
  unfold primS
  by_cases k8 : k = 8
  · subst k8
    rw [if_pos rfl]
    have K0 := ak 0 (by decide)
    obtain ⟨n, hn⟩ := Known.num (show Known s.th (l.getD 0 0) 2 from K0)
    have ok := h.th _ _ hn
    refine (h.next (Ext.refl _) h.th (fun _ _ _ _ => rfl) s.fuel _ (fun n hn' => ?_) s.steps _).good ⟨_, hn, by simp [isVal, isOf]⟩
    rcases List.mem_append.1 hn' with hn' | hn'
    · exact h.ou n hn'
    · rw [List.mem_singleton.1 hn', thAt_some hn]; exact ok
  rw [if_neg k8]
  by_cases k9 : k = 9
  · subst k9
    rw [if_pos rfl]
    exact (h.same _ _ _).good (lt 1 (by decide))
  rw [if_neg k9]
  by_cases k10 : k = 10
  · subst k10
    rw [if_pos rfl]
    exact tellNew_good h _ (by have := lt 0 (by decide); show l.getD 0 0 < (s.th ++ _).length; rw [List.length_append]; omega) (by simp [isVal, isOf])
  rw [if_neg k10]
  by_cases k11 : k = 11
  · subst k11
    rw [if_pos rfl]
    obtain ⟨u, hu⟩ := Known.var (show Known s.th (l.getD 0 0) 3 from ak 0 (by decide))
    refine (h.same _ _ _).good ?_
    show ofT _ < _
    rw [thAt_some hu]
    exact h.th _ _ hu
  rw [if_neg k11]
  by_cases k12 : k = 12
  · subst k12
    rw [if_pos rfl]
    obtain ⟨u, hu⟩ := Known.var (show Known s.th (l.getD 0 0) 3 from ak 0 (by decide))
    have X : Ext s.th (s.th.set (l.getD 0 0) (.var (l.getD 1 0))) := Ext.set _ _ _ (fun t ht => by rw [hu] at ht; cases ht; exact .inl ⟨_, _, rfl, rfl⟩)
    exact tellNew_good (h.next X (h.th.set X (by have := lt 1 (by decide); show l.getD 1 0 < (s.th.set _ _).length; rw [List.length_set]; exact this)) (work_set h hu (by simp)) s.fuel s.out h.ou s.steps s.md) _ ⟨by decide, by decide⟩ (by simp [isVal, isOf])
  rw [if_neg k12]
  by_cases k13 : k = 13
  · subst k13
    rw [if_pos rfl]
    split
    · exact failS_good h (by decide)
    · rename_i hr
      refine tellNew_good h _ ⟨by rw [List.length_replicate]; omega, fun t ht => ?_⟩ (by simp [isVal, isOf])
      obtain ⟨_, rfl⟩ := List.mem_replicate.1 ht
      have := lt 1 (by decide)
      rw [List.length_append]; omega
  rw [if_neg k13]
  by_cases k14 : k = 14
  · subst k14
    rw [if_pos rfl]
    obtain ⟨u, hu⟩ := Known.arr (show Known s.th (l.getD 0 0) 4 from ak 0 (by decide))
    split
    · rename_i hr
      refine (h.same _ _ _).good ?_
      show _ < _
      rw [thAt_some hu] at hr ⊢
      rw [show numOf (.arr u) = (u.length : Int) from rfl] at hr
      exact getD_lt (h.th _ _ hu).2 (by show _ < u.length; omega) 0
    · exact failS_good h (by decide)
  rw [if_neg k14]
  by_cases k15 : k = 15
  · subst k15
    rw [if_pos rfl]
    obtain ⟨u, hu⟩ := Known.arr (show Known s.th (l.getD 0 0) 4 from ak 0 (by decide))
    split
    · rw [thAt_some hu]
      have ok := h.th _ _ hu
      have X : Ext s.th (s.th.set (l.getD 0 0) (.arr ((itemsT (.arr u)).set (numOf (thAt s (l.getD 1 0))).toNat (l.getD 2 0)))) := Ext.set _ _ _ (fun t ht => by rw [hu] at ht; cases ht; exact .inr (.inl ⟨_, _, rfl, rfl, by simp [itemsT]⟩))
      refine tellNew_good (h.next X (h.th.set X ⟨by simp [itemsT]; exact ok.1, fun t ht => ?_⟩) (work_set h hu (by simp)) s.fuel s.out h.ou s.steps s.md) _ ⟨by decide, by decide⟩ (by simp [isVal, isOf])
      rw [List.length_set]
      rcases List.mem_or_eq_of_mem_set ht with ht | rfl
      · exact ok.2 t ht
      · exact lt 2 (by decide)
    · exact failS_good h (by decide)
  rw [if_neg k15]
  by_cases k16 : k = 16
  · subst k16
    rw [if_pos rfl]
    obtain ⟨u, hu⟩ := Known.arr (show Known s.th (l.getD 0 0) 4 from ak 0 (by decide))
    refine tellNew_good h _ ?_ (by simp [isVal, isOf])
    rw [thAt_some hu]
    have := (h.th _ _ hu).1
    show isI (u.length : Int)
    unfold isI; omega
  rw [if_neg k16]
  split
  · refine tellNew_good h _ ?_ (by simp [isVal, isOf])
    have t0 : needI k 0 = 2 := by
      have c : k = 1 ∨ k = 2 ∨ k = 3 ∨ k = 4 ∨ k = 5 ∨ k = 6 ∨ k = 7 := by omega
      rcases c with rfl | rfl | rfl | rfl | rfl | rfl | rfl <;> rfl
    have tk : tA k = 2 := by
      have c : k = 1 ∨ k = 2 ∨ k = 3 ∨ k = 4 ∨ k = 5 ∨ k = 6 ∨ k = 7 := by omega
      rcases c with rfl | rfl | rfl | rfl | rfl | rfl | rfl <;> rfl
    have K0 := ak 0 (by rw [tk]; decide)
    rw [show needI k ((0 : Nat) : Int) = 2 from t0] at K0
    obtain ⟨n, hn⟩ := Known.num K0
    exact doI_isI (by rw [thAt_some hn]; exact h.th _ _ hn)
  · rename_i hd
    exact failS_good h (doI_err hd)
theorem argsF_good {k j : Nat} {l : List Nat} (h1 : 1 ≤ k) (h2 : k ≤ 16) (hj : s.rows[j]? = some l) (al : (l.length : Int) = tA k) (ao : okL s.th.length l) (nj : j ∉ s.ws.filterMap rowId) (h : Gd ar s) :
    ∀ (r : List Nat) (i : Nat), r = l.drop i → (∀ m : Nat, m < i → Known s.th (l.getD m 0) (needI k m)) → Good ar (argsF s k j r i)
  | [], i, hr, hk => by
    have li : l.length ≤ i := by have := congrArg List.length hr; simp at this; omega
    rw [argsF, List.getD_eq_getElem?_getD, hj]
    exact primS_good h h1 h2 ⟨al, ao, fun m hm => hk m (by omega)⟩
  | t :: r, i, hr, hk => by
    have li : i < l.length := by have := congrArg List.length hr; simp at this; omega
    have et : l.getD i 0 = t := by
      rw [List.getD_eq_getElem?_getD, List.getElem?_eq_getElem li]
      have := List.drop_eq_getElem_cons li
      rw [← hr] at this
      injection this with a b
      exact a.symm
    have er : r = l.drop (i + 1) := by
      have := List.drop_eq_getElem_cons li
      rw [← hr] at this
      injection this
    have tl : t < s.th.length := by rw [← et]; exact getD_lt ao li 0
    rw [argsF]
    by_cases z : needI k i = 0
    · rw [if_pos z]
      refine argsF_good h1 h2 hj al ao nj h r (i + 1) er (fun m hm => ?_)
      by_cases e : m = i
      · subst e
        rw [et, z]
        exact ⟨_, th_lt tl, fun e => absurd rfl e, by simp [unlikeT]⟩
      · exact hk m (by omega)
    · rw [if_neg z]
      refine Gd.good ⟨h.th, fun f hf => ?_, ?_, ?_, h.ou⟩ tl
      · rcases List.mem_cons.1 hf with rfl | hf
        · exact ⟨h1, h2, by omega, l, hj, al, ao, hk⟩
        · exact h.ws f hf
      · simp only [List.filterMap_cons, rowId, List.nodup_cons]
        exact ⟨nj, h.rj⟩
      · simp only [List.filterMap_cons, workId]; exact h.wj
theorem okFm_rows {f : Fm} {rows rows' : List (List Nat)} {th : List T} (h : okFm ar th rows f) (k : ∀ j, rowId f = some j → rows'[j]? = rows[j]?) : okFm ar th rows' f := by
  cases f with
  | same t => exact h
  | things l => exact h
  | arms a o e => exact h
  | prim kk j i =>
    obtain ⟨a, b, c, l, d, r⟩ := h
    exact ⟨a, b, c, l, (k j rfl).trans d, r⟩
theorem evalX_good (h : Gd ar s) {x : X} {e : Env} (he : okE s.th.length e) (hx : okX ar (shE e) x) : Good ar (evalX s x e) := by
  cases x with
  | int n => simp only [okX] at hx; exact tellNew_good h _ hx (by simp [isVal, isOf])
  | con n l =>
    simp only [okX] at hx
    obtain ⟨l', e1, e2⟩ := atomsP_th e (shE e) l s.th hx.2.2
    have a1 := atomsP_ok l s.th he hx.2.2
    have a2 := atomsP_len e l s.th
    show Good ar (tellNew { s with th := (atomsP e l s.th).2 } (.con n (atomsP e l s.th).1))
    generalize (atomsP e l s.th).1 = ids at *
    rw [e1] at a1 ⊢
    have g1 := h.next (Ext.app s.th l') (h.th.app (fun t ht => by obtain ⟨n, rfl, hn⟩ := e2 t ht; exact hn)) (work_app h _) s.fuel s.out h.ou s.steps s.md
    exact tellNew_good g1 _ ⟨hx.1, a2.trans hx.2.1, a1.mono (by simp)⟩ (by simp [isVal, isOf])
  | app p l =>
    simp only [okX] at hx
    have pl := envAt_lt he hx.1
    show Good ar (if l.length = 0 then _ else _)
    by_cases z : l.length = 0
    · rw [if_pos z]; exact (h.same _ _ _).good pl
    · rw [if_neg z]
      obtain ⟨l', e1, e2⟩ := atomsP_th e (shE e) l s.th hx.2.2
      have a1 := atomsP_ok l s.th he hx.2.2
      have a2 := atomsP_len e l s.th
      generalize (atomsP e l s.th).1 = ids at *
      rw [e1] at a1 ⊢
      have g1 := h.next (Ext.app s.th l') (h.th.app (fun t ht => by obtain ⟨n, rfl, hn⟩ := e2 t ht; exact hn)) (work_app h _) s.fuel s.out h.ou s.steps s.md
      refine Gd.good ⟨g1.th, fun f hf => ?_, ?_, ?_, h.ou⟩ (by show _ < _; simp; omega)
      · rcases List.mem_cons.1 hf with rfl | hf
        · exact ⟨by omega, by omega, a1⟩
        · exact g1.ws f hf
      · simp only [List.filterMap_cons, rowId]; exact h.rj
      · simp only [List.filterMap_cons, workId]; exact h.wj
  | lt bs kid =>
    simp only [okX] at hx
    have hn : e.length + 1 ≤ 1000000000 := by rw [← shE_len]; exact hx.2.2.2
    obtain ⟨l', e1, e2, e3⟩ := groupT_ok (ar := ar) he hn hx.2.1
    show Good ar { s with th := groupT e bs s.th, md := .ev kid (groupE e bs s.th) }
    rw [e1]
    exact (h.next (Ext.app s.th l') (h.th.app (fun t ht => okS.ok t (e3 t ht))) (work_app h _) s.fuel s.out h.ou s.steps _).good ⟨groupE_ok he hn e2, by rw [shE_group]; exact hx.2.2.1⟩
  | cs kid al o =>
    simp only [okX] at hx
    refine Gd.good ⟨h.th, fun f hf => ?_, ?_, ?_, h.ou⟩ ⟨he, hx.1⟩
    · rcases List.mem_cons.1 hf with rfl | hf
      · exact ⟨he, hx.2.1, hx.2.2.1, by rw [← shE_len]; exact hx.2.2.2⟩
      · exact h.ws f hf
    · show (List.filterMap rowId (.arms al o e :: s.ws)).Nodup
      simp only [List.filterMap_cons, rowId]; exact h.rj
    · show (List.filterMap workId (.arms al o e :: s.ws)).Nodup
      simp only [List.filterMap_cons, workId]; exact h.wj
  | prim k l =>
    simp only [okX] at hx
    obtain ⟨l', e1, e2⟩ := atomsP_th e (shE e) l s.th hx.2.2.2
    have a1 := atomsP_ok l s.th he hx.2.2.2
    have a2 := atomsP_len e l s.th
    show Good ar (argsS { s with th := (atomsP e l s.th).2, rows := s.rows ++ [(atomsP e l s.th).1] } k s.rows.length 0)
    generalize (atomsP e l s.th).1 = ids at *
    rw [e1] at a1 ⊢
    have g1 := h.next (Ext.app s.th l') (h.th.app (fun t ht => by obtain ⟨n, rfl, hn⟩ := e2 t ht; exact hn)) (work_app h _) s.fuel s.out h.ou s.steps s.md
    have nj : ∀ f ∈ s.ws, ∀ j, rowId f = some j → j < s.rows.length := fun f hf j hj => by
      have k := h.ws f hf
      cases f <;> simp only [rowId] at hj
      all_goals first | (cases hj; obtain ⟨_, _, _, l, d, _⟩ := k; exact (List.getElem?_eq_some_iff.1 d).1) | cases hj
    have g2 : Gd ar { s with th := s.th ++ l', rows := s.rows ++ [ids] } := ⟨g1.th, fun f hf => okFm_rows (g1.ws f hf) (fun j hj => List.getElem?_append_left (nj f hf j hj)), h.rj, h.wj, h.ou⟩
    have rj : (s.rows ++ [ids]).getD s.rows.length [] = ids := by simp [List.getD_eq_getElem?_getD]
    unfold argsS
    refine argsF_good (s := { s with th := s.th ++ l', rows := s.rows ++ [ids] }) hx.1 hx.2.1 (l := ids) (by simp) (by rw [a2]; exact hx.2.2.1) a1 (fun hm => ?_) g2 _ 0 (by show List.drop 0 ((s.rows ++ [ids]).getD s.rows.length []) = _; rw [rj]) (fun m hm => absurd hm (Nat.not_lt_zero m))
    obtain ⟨f, hf, hj⟩ := List.mem_filterMap.1 hm
    exact absurd (nj f hf _ hj) (Nat.lt_irrefl _)
theorem evalS_good (h : Gd ar s) {x : X} {e : Env} (he : okE s.th.length e) (hx : okX ar (shE e) x) : Good ar (evalS s x e) := by
  unfold evalS
  split
  · exact (h.same _ _ _).good trivial
  · exact evalX_good (s := { s with fuel := s.fuel - 1, steps := s.steps + 1 }) ⟨h.th, h.ws, h.rj, h.wj, h.ou⟩ he hx
end
section
variable {ar : List Nat} {s : St}
theorem okArs_of {sh : List Nat} {is : Nat} {n : Int} {x : X} : ∀ {al : List Ar}, okArs ar sh al → armOf al is n = some x → (is = 0 ∧ okX ar sh x) ∨ (is = 1 ∧ 0 ≤ n ∧ n.toNat < ar.length ∧ okX ar (pushN (ar.getD n.toNat 0) sh) x)
  | [], _, h => by simp [armOf] at h
  | .mk i m y :: r, ok, h => by
    simp only [okArs] at ok
    rw [armOf] at h
    by_cases z : i = is ∧ m = n
    · rw [if_pos z] at h
      cases h
      obtain ⟨rfl, rfl⟩ := z
      rcases ok.1 with ⟨a, b, c⟩ | c
      · exact .inl ⟨a, c⟩
      · exact .inr c
    · rw [if_neg z] at h
      exact okArs_of ok.2 h
theorem enterF_good (h : Gd ar s) {f : Nat} {l : List Nat} (hl : okL s.th.length l) (h0 : l.length ≠ 0) (h8 : ∀ a x e, s.th[f]? = some (.fn a x e) → l.length ≤ a + 8) (hf : f < s.th.length) : Good ar (enterF s f l) := by
  have e := th_lt hf
  have ok := h.th f _ e
  unfold enterF
  generalize thAt s f = v at *
  cases v with
  | fn a x en =>
    have q := h8 a x en e
    have tk : okL s.th.length (l.take a) := fun t ht => hl t (List.mem_of_mem_take ht)
    simp only
    by_cases c1 : l.length < a
    · rw [if_pos c1]
      exact tellNew_good h _ ⟨⟨a, x, en, (Ext.app _ _).fn e, c1, ok.2.1, h0⟩, hl.mono (by simp)⟩ (by simp [isVal, isOf])
    · rw [if_neg c1]
      have sh : shE (inE en (l.take a)) = pushN a (shE en) := by rw [shE_in, List.length_take, Nat.min_eq_left (by omega)]
      by_cases c2 : a < l.length
      · rw [if_pos c2]
        refine Gd.good ⟨h.th, fun g hg => ?_, ?_, ?_, h.ou⟩ ⟨inE_ok ok.2.2.1 ok.2.2.2.2 tk, by rw [sh]; exact ok.2.2.2.1⟩
        · rcases List.mem_cons.1 hg with rfl | hg
          · exact ⟨by rw [List.length_drop]; omega, by rw [List.length_drop]; omega, fun t ht => hl t (List.mem_of_mem_drop ht)⟩
          · exact h.ws g hg
        · show (List.filterMap rowId (.things (l.drop a) :: s.ws)).Nodup
          simp only [List.filterMap_cons, rowId]; exact h.rj
        · show (List.filterMap workId (.things (l.drop a) :: s.ws)).Nodup
          simp only [List.filterMap_cons, workId]; exact h.wj
      · rw [if_neg c2]
        exact (h.same _ _ _).good ⟨inE_ok ok.2.2.1 ok.2.2.2.2 tk, by rw [sh]; exact ok.2.2.2.1⟩
  | num n => exact failS_good h (by decide)
  | con n l => exact failS_good h (by decide)
  | part f l => exact failS_good h (by decide)
  | var u => exact failS_good h (by decide)
  | arr l => exact failS_good h (by decide)
  | need x en => exact failS_good h (by decide)
  | call f l => exact failS_good h (by decide)
  | work => exact failS_good h (by decide)
  | failed n => exact failS_good h (by decide)
  | same u => exact failS_good h (by decide)
theorem enterS_good (h : Gd ar s) {t : Nat} {l : List Nat} (hl : okL s.th.length l) (h0 : l.length ≠ 0) (h8 : l.length ≤ 8) (ht : t < s.th.length) : Good ar (enterS s t l) := by
  have e := th_lt ht
  have ok := h.th t _ e
  unfold enterS
  split
  · rename_i f m hv
    rw [hv] at ok e
    obtain ⟨⟨a, x, en, k1, k2, k3, k5⟩, k4⟩ := ok
    refine enterF_good h (fun u hu => ?_) (by rw [List.length_append]; omega) (fun a' x' e' he => ?_) (List.getElem?_eq_some_iff.1 k1).1
    · rcases List.mem_append.1 hu with hu | hu
      · exact k4 u hu
      · exact hl u hu
    · rw [k1] at he
      cases he
      rw [List.length_append]
      omega
  · exact enterF_good h hl h0 (fun a x e _ => by omega) ht
theorem chooseS_good (h : Gd ar s) {t : Nat} {al : List Ar} {o : List X} {e : Env} (he : okE s.th.length e) (ha : okArs ar (shE e) al) (ho : okXs ar (1 :: shE e) o) (hn : e.length + 1 ≤ 1000000000) (ht : ∃ v, s.th[t]? = some v ∧ isVal v) : Good ar (chooseS s t al o e) := by
  obtain ⟨v, hv, vv⟩ := ht
  have ok := h.th t _ hv
  unfold chooseS
  rw [thAt_some hv]
  split
  · rename_i x hx
    rcases okArs_of ha hx with ⟨a, b⟩ | ⟨a, b, c, d⟩
    · obtain ⟨n, rfl⟩ := isVal_num a
      exact (h.same _ _ _).good ⟨he, b⟩
    · cases v <;> simp [isOf] at a
      rename_i n l
      simp only [numOf] at b c d
      refine (h.same _ _ _).good ⟨inE_ok he hn ok.2.2, ?_⟩
      rw [shE_in]
      simp only [withOf]
      rw [ok.2.1]
      simpa using d
  · cases o with
    | nil => exact failS_good h (by decide)
    | cons x r =>
      simp only [okXs] at ho
      refine (h.same _ _ _).good ⟨⟨by simp, fun l hl => ?_, by simpa using hn⟩, ho.1⟩
      rcases List.mem_cons.1 hl with rfl | hl
      · intro u hu
        rw [List.mem_singleton.1 hu]
        exact (List.getElem?_eq_some_iff.1 hv).1
      · exact he.2.1 l hl
theorem unlike_ok {v : T} {n : Int} (h : unlikeT v n ≠ 0) : 0 < unlikeT v n ∧ unlikeT v n ≤ 100 := by
  unfold unlikeT at h ⊢
  split
  · decide
  · split
    · decide
    · rename_i a b
      rw [if_neg a, if_neg b] at h
      exact absurd rfl h
theorem argumentS_good (h : Gd ar s) {t k j i : Nat} (hf : okFm ar s.th s.rows (.prim k j i)) (nj : j ∉ s.ws.filterMap rowId) (ht : ∃ v, s.th[t]? = some v ∧ isVal v) : Good ar (argumentS s t k j i) := by
  obtain ⟨v, hv, vv⟩ := ht
  obtain ⟨h1, h2, h3, l, hj, al, ao, ak⟩ := hf
  unfold argumentS
  rw [thAt_some hv]
  by_cases z : unlikeT v (needI k i) = 0
  · rw [if_pos z, List.getD_eq_getElem?_getD, hj]
    have jl := (List.getElem?_eq_some_iff.1 hj).1
    have g2 : Gd ar { s with rows := s.rows.set j (l.set i t) } := ⟨h.th, fun f hf => okFm_rows (h.ws f hf) (fun j' hj' => List.getElem?_set_ne (fun e => nj (by subst e; exact List.mem_filterMap.2 ⟨f, hf, hj'⟩))), h.rj, h.wj, h.ou⟩
    have tl := (List.getElem?_eq_some_iff.1 hv).1
    have rj : (s.rows.set j (l.set i t)).getD j [] = l.set i t := by rw [List.getD_eq_getElem?_getD, List.getElem?_set_self jl]; rfl
    unfold argsS
    refine argsF_good (s := { s with rows := s.rows.set j (l.set i t) }) h1 h2 (l := l.set i t) (List.getElem?_set_self jl) (by rw [List.length_set]; exact al) (fun u hu => ?_) nj g2 _ (i + 1) (by show List.drop (i + 1) ((s.rows.set j (l.set i t)).getD j []) = _; rw [rj]) (fun m hm => ?_)
    · rcases List.mem_or_eq_of_mem_set hu with hu | rfl
      · exact ao u hu
      · exact tl
    · by_cases e : m = i
      · subst e
        rw [List.getD_eq_getElem?_getD, List.getElem?_set_self (by omega)]
        exact ⟨v, hv, fun _ => vv, z⟩
      · rw [List.getD_eq_getElem?_getD, List.getElem?_set_ne (fun x => e x.symm), ← List.getD_eq_getElem?_getD]
        exact ak m (by omega)
  · rw [if_neg z]
    exact failS_good h (unlike_ok z)
theorem tellS_good (h : Gd ar s) {t : Nat} (ht : ∃ v, s.th[t]? = some v ∧ isVal v) : Good ar (tellS s t) := by
  obtain ⟨v, hv, vv⟩ := ht
  have tl := (List.getElem?_eq_some_iff.1 hv).1
  unfold tellS
  split
  · exact (h.same _ _ _).good ⟨v, hv, vv⟩
  · rename_i u r hw
    have w0 : ∀ f ∈ r, f ∈ s.ws := fun f hf => by rw [hw]; exact List.mem_cons_of_mem _ hf
    have ku : s.th[u]? = some .work := h.ws (.same u) (by rw [hw]; exact List.mem_cons_self ..)
    have wj := h.wj
    rw [hw, List.filterMap_cons] at wj
    simp only [workId, List.nodup_cons] at wj
    have rj := h.rj
    rw [hw, List.filterMap_cons] at rj
    simp only [rowId] at rj
    have X : Ext s.th (s.th.set u (.same t)) := Ext.set _ _ _ (fun x hx => by rw [ku] at hx; cases hx; exact .inr (.inr fun z => absurd z (by simp [isVal, isOf])))
    have ut : u ≠ t := fun e => by subst e; rw [ku] at hv; cases hv; exact absurd vv (by simp [isVal, isOf])
    have tv : (s.th.set u (.same t))[t]? = some v := by rw [List.getElem?_set_ne ut]; exact hv
    refine Gd.good ⟨h.th.set X ⟨v, tv, vv⟩, fun f hf => okFm.ext X f (fun x hx => ?_) (h.ws f (w0 f hf)), rj, wj.2, h.ou⟩ ⟨v, tv, vv⟩
    exact List.getElem?_set_ne (fun e => wj.1 (by subst e; exact List.mem_filterMap.2 ⟨f, hf, hx⟩))
  · rename_i l r hw
    have w0 : ∀ f ∈ r, f ∈ s.ws := fun f hf => by rw [hw]; exact List.mem_cons_of_mem _ hf
    have k : okFm ar s.th s.rows (.things l) := h.ws _ (by rw [hw]; exact List.mem_cons_self ..)
    have wj := h.wj
    rw [hw, List.filterMap_cons] at wj
    have rj := h.rj
    rw [hw, List.filterMap_cons] at rj
    exact enterS_good (s := { s with ws := r }) ⟨h.th, fun f hf => h.ws f (w0 f hf), rj, wj, h.ou⟩ k.2.2 k.1 k.2.1 tl
  · rename_i al o e r hw
    have w0 : ∀ f ∈ r, f ∈ s.ws := fun f hf => by rw [hw]; exact List.mem_cons_of_mem _ hf
    have k : okFm ar s.th s.rows (.arms al o e) := h.ws _ (by rw [hw]; exact List.mem_cons_self ..)
    have wj := h.wj
    rw [hw, List.filterMap_cons] at wj
    have rj := h.rj
    rw [hw, List.filterMap_cons] at rj
    exact chooseS_good (s := { s with ws := r }) ⟨h.th, fun f hf => h.ws f (w0 f hf), rj, wj, h.ou⟩ k.1 k.2.1 k.2.2.1 k.2.2.2 ⟨v, hv, vv⟩
  · rename_i kk j i r hw
    have w0 : ∀ f ∈ r, f ∈ s.ws := fun f hf => by rw [hw]; exact List.mem_cons_of_mem _ hf
    have k : okFm ar s.th s.rows (.prim kk j i) := h.ws _ (by rw [hw]; exact List.mem_cons_self ..)
    have wj := h.wj
    rw [hw, List.filterMap_cons] at wj
    have rj := h.rj
    rw [hw, List.filterMap_cons] at rj
    simp only [rowId, List.nodup_cons] at rj
    exact argumentS_good (s := { s with ws := r }) ⟨h.th, fun f hf => h.ws f (w0 f hf), rj.2, wj, h.ou⟩ k rj.1 ⟨v, hv, vv⟩
theorem step_good (h : Good ar s) : Good ar (step s) := by
  have m := h.md
  unfold step
  split
  · rename_i x e hm
    rw [hm] at m
    exact evalS_good h.gd m.1 m.2
  · rename_i t hm
    rw [hm] at m
    exact knowS_good h.gd m
  · rename_i t hm
    rw [hm] at m
    exact tellS_good h.gd m
  · exact h
end
section
variable {ar : List Nat} {s : St}
theorem count_app_num {th l : List T} (h : ∀ t ∈ l, isCall t = false) : (th ++ l).countP isCall = th.countP isCall := by
  have z : l.countP isCall = 0 := List.countP_eq_zero.2 (fun t ht => by simp [h t ht])
  rw [List.countP_append, z, Nat.add_zero]
theorem meas_fail (h : Gd ar s) {e : Int} (he : 0 < e ∧ e ≤ 100) : meas (failS s e) ≤ 100 * s.fuel + 100 * s.th.countP isCall := by
  have := (failAll_ok he _ _ h.th (fail_work h)).2.2
  simp only [meas, failS, List.map_nil, List.sum_nil, mM]
  omega
theorem meas_tellNew {t : T} (ht : isCall t = false) : meas (tellNew s t) = 100 * s.fuel + 100 * s.th.countP isCall + (s.ws.map mF).sum + 1 := by
  simp only [meas, tellNew, mM]
  rw [count_app_num (fun x hx => by rw [List.mem_singleton.1 hx]; exact ht)]
theorem meas_prim (h : Gd ar s) {k : Nat} {l : List Nat} : meas (primS s k l) ≤ 100 * s.fuel + 100 * s.th.countP isCall + (s.ws.map mF).sum + 4 := by
  have f : ∀ e : Int, 0 < e ∧ e ≤ 100 → meas (failS s e) ≤ 100 * s.fuel + 100 * s.th.countP isCall + (s.ws.map mF).sum + 4 := fun e he => by have := meas_fail h he; omega
  have t : ∀ t, isCall t = false → meas (tellNew s t) ≤ 100 * s.fuel + 100 * s.th.countP isCall + (s.ws.map mF).sum + 4 := fun t ht => by rw [meas_tellNew ht]; omega
  have st : ∀ (i : Nat) (t' : T), isCall t' = false → meas (tellNew { s with th := s.th.set i t' } (.num 0)) ≤ 100 * s.fuel + 100 * s.th.countP isCall + (s.ws.map mF).sum + 4 := fun i t' ht => by
    rw [meas_tellNew rfl]
    have := count_set_le t' ht s.th i
    show 100 * s.fuel + 100 * (s.th.set i t').countP isCall + (s.ws.map mF).sum + 1 ≤ _
    omega
  unfold primS
  by_cases k8 : k = 8
  · rw [if_pos k8]
    simp only [meas, mM]; omega
  rw [if_neg k8]
  by_cases k9 : k = 9
  · rw [if_pos k9]
    simp only [meas, mM]; omega
  rw [if_neg k9]
  by_cases k10 : k = 10
  · rw [if_pos k10]
    exact t _ rfl
  rw [if_neg k10]
  by_cases k11 : k = 11
  · rw [if_pos k11]
    simp only [meas, mM]; omega
  rw [if_neg k11]
  by_cases k12 : k = 12
  · rw [if_pos k12]
    exact st _ _ rfl
  rw [if_neg k12]
  by_cases k13 : k = 13
  · rw [if_pos k13]
    by_cases z : numOf (thAt s (l.getD 0 0)) < 0 ∨ 1024 < numOf (thAt s (l.getD 0 0))
    · rw [if_pos z]; exact f _ (by decide)
    · rw [if_neg z]; exact t _ rfl
  rw [if_neg k13]
  by_cases k14 : k = 14
  · rw [if_pos k14]
    by_cases z : 0 ≤ numOf (thAt s (l.getD 1 0)) ∧ numOf (thAt s (l.getD 1 0)) < numOf (thAt s (l.getD 0 0))
    · rw [if_pos z]; simp only [meas, mM]; omega
    · rw [if_neg z]; exact f _ (by decide)
  rw [if_neg k14]
  by_cases k15 : k = 15
  · rw [if_pos k15]
    by_cases z : 0 ≤ numOf (thAt s (l.getD 1 0)) ∧ numOf (thAt s (l.getD 1 0)) < numOf (thAt s (l.getD 0 0))
    · rw [if_pos z]; exact st _ _ rfl
    · rw [if_neg z]; exact f _ (by decide)
  rw [if_neg k15]
  by_cases k16 : k = 16
  · rw [if_pos k16]
    exact t _ rfl
  rw [if_neg k16]
  by_cases z : (doI k (numOf (thAt s (l.getD 0 0))) (numOf (thAt s (l.getD 1 0)))).2 = 0
  · rw [if_pos z]; exact t _ rfl
  · rw [if_neg z]; exact f _ (doI_err z)
theorem meas_args (h : Gd ar s) {k j : Nat} : ∀ (r : List Nat) (i : Nat), meas (argsF s k j r i) ≤ 100 * s.fuel + 100 * s.th.countP isCall + (s.ws.map mF).sum + 10 * (4 - i) + 4
  | [], i => by have := meas_prim h (k := k) (l := s.rows.getD j []); rw [argsF]; omega
  | t :: r, i => by
    rw [argsF]
    split
    · have := meas_args h (k := k) (j := j) r (i + 1); omega
    · simp only [meas, mM, List.map_cons, List.sum_cons, mF]; omega
theorem meas_evalX (h : Gd ar s) {x : X} {e : Env} (he : okE s.th.length e) (hx : okX ar (shE e) x) : meas (evalX s x e) ≤ 100 * s.fuel + 100 * s.th.countP isCall + (s.ws.map mF).sum + 84 := by
  cases x with
  | int n => have := meas_tellNew (s := s) (t := .num n) rfl; simp only [evalX]; omega
  | con n l =>
    simp only [okX] at hx
    obtain ⟨l', e1, e2⟩ := atomsP_th e (shE e) l s.th hx.2.2
    simp only [evalX]
    rw [meas_tellNew rfl, e1]
    show 100 * s.fuel + 100 * (s.th ++ l').countP isCall + (s.ws.map mF).sum + 1 ≤ _
    rw [count_app_num (fun t ht => by obtain ⟨n, rfl, _⟩ := e2 t ht; rfl)]
    omega
  | app p l =>
    simp only [okX] at hx
    obtain ⟨l', e1, e2⟩ := atomsP_th e (shE e) l s.th hx.2.2
    have al := atomsP_len e l s.th
    simp only [evalX]
    split
    · simp only [meas, mM]; omega
    · simp only [meas, mM, List.map_cons, List.sum_cons, mF]
      rw [e1, count_app_num (fun t ht => by obtain ⟨n, rfl, _⟩ := e2 t ht; rfl)]
      omega
  | lt bs kid =>
    simp only [okX] at hx
    obtain ⟨l', e1, e2, e3⟩ := groupT_ok (ar := ar) he (by rw [← shE_len]; exact hx.2.2.2) hx.2.1
    simp only [evalX, meas, mM]
    rw [e1, count_app_num (fun t ht => (e3 t ht).call)]
    omega
  | cs kid al o => simp only [evalX, meas, mM, List.map_cons, List.sum_cons, mF]; omega
  | prim k l =>
    simp only [okX] at hx
    obtain ⟨l', e1, e2⟩ := atomsP_th e (shE e) l s.th hx.2.2.2
    have g := evalX_good h he (x := .prim k l) (by simp only [okX]; exact hx)
    have nj : ∀ f ∈ s.ws, ∀ j, rowId f = some j → j < s.rows.length := fun f hf j hj => by
      have k := h.ws f hf
      cases f <;> simp only [rowId] at hj
      all_goals first | (cases hj; obtain ⟨_, _, _, l, d, _⟩ := k; exact (List.getElem?_eq_some_iff.1 d).1) | cases hj
    simp only [evalX, argsS]
    have g1 := h.next (Ext.app s.th l') (h.th.app (fun t ht => by obtain ⟨n, rfl, hn⟩ := e2 t ht; exact hn)) (work_app h _) s.fuel s.out h.ou s.steps s.md
    have g2 : Gd ar { s with th := s.th ++ l', rows := s.rows ++ [(atomsP e l s.th).1] } := ⟨g1.th, fun f hf => okFm_rows (g1.ws f hf) (fun j hj => List.getElem?_append_left (nj f hf j hj)), h.rj, h.wj, h.ou⟩
    rw [e1]
    have := meas_args g2 (k := k) (j := s.rows.length) (List.drop 0 ((s.rows ++ [(atomsP e l s.th).1]).getD s.rows.length [])) 0
    have c : (s.th ++ l').countP isCall = s.th.countP isCall := count_app_num (fun t ht => by obtain ⟨n, rfl, _⟩ := e2 t ht; rfl)
    simp only [c] at this
    omega
theorem meas_enterF (h : Gd ar s) {f : Nat} {l : List Nat} : meas (enterF s f l) ≤ 100 * s.fuel + 100 * s.th.countP isCall + (s.ws.map mF).sum + 2 + 10 * (match thAt s f with | .fn a _ _ => l.length - a | _ => 0) := by
  have F := meas_fail h (e := 43) (by decide)
  unfold enterF
  generalize thAt s f = v
  cases v with
  | fn a x en =>
    simp only
    by_cases c1 : l.length < a
    · rw [if_pos c1, meas_tellNew rfl]; omega
    · rw [if_neg c1]
      by_cases c2 : a < l.length
      · rw [if_pos c2]
        have e1 : (l.drop a).length = l.length - a := List.length_drop ..
        show 100 * s.fuel + 100 * s.th.countP isCall + (10 * (l.drop a).length + (s.ws.map mF).sum) + 2 ≤ _
        omega
      · rw [if_neg c2]
        show 100 * s.fuel + 100 * s.th.countP isCall + (s.ws.map mF).sum + 2 ≤ _
        omega
  | num n => simp only; omega
  | con n l => simp only; omega
  | part f l => simp only; omega
  | var u => simp only; omega
  | arr l => simp only; omega
  | need x en => simp only; omega
  | call f l => simp only; omega
  | work => simp only; omega
  | failed n => simp only; omega
  | same u => simp only; omega
theorem step_less (h : Good ar s) (hf : fin s.md = false) : meas (step s) < meas s := by
  have m := h.md
  have gd := h.gd
  unfold step
  split
  · rename_i x e hm
    rw [hm] at m
    have e0 : meas s = 100 * s.fuel + 100 * s.th.countP isCall + (s.ws.map mF).sum + 2 := by simp only [meas, hm, mM]
    rw [e0]
    unfold evalS
    split
    · simp only [meas, mM]; omega
    · rename_i z
      have := meas_evalX (s := { s with fuel := s.fuel - 1, steps := s.steps + 1 }) ⟨gd.th, gd.ws, gd.rj, gd.wj, gd.ou⟩ m.1 m.2
      simp only at this
      omega
  · rename_i t hm
    rw [hm] at m
    have e0 : meas s = 100 * s.fuel + 100 * s.th.countP isCall + (s.ws.map mF).sum + 4 := by simp only [meas, hm, mM]
    rw [e0]
    have e := th_lt m
    have ok := gd.th t _ e
    unfold knowS
    generalize thAt s t = v at *
    cases v with
    | need x en =>
      have := count_set_le .work rfl s.th t
      simp only [meas, mM, List.map_cons, List.sum_cons, mF]; omega
    | call f l =>
      have := count_set_call .work rfl s.th t e
      have := ok.2.2.1
      simp only [meas, mM, List.map_cons, List.sum_cons, mF]; omega
    | work => have := meas_fail gd (e := 47) (by decide); simp only; omega
    | failed n => have := meas_fail gd (e := n) ok; simp only; omega
    | same u => simp only [meas, mM]; omega
    | num n => simp only [meas, mM]; omega
    | con n l => simp only [meas, mM]; omega
    | fn a x en => simp only [meas, mM]; omega
    | part f l => simp only [meas, mM]; omega
    | var u => simp only [meas, mM]; omega
    | arr l => simp only [meas, mM]; omega
  · rename_i t hm
    rw [hm] at m
    have e0 : meas s = 100 * s.fuel + 100 * s.th.countP isCall + (s.ws.map mF).sum + 1 := by simp only [meas, hm, mM]
    rw [e0]
    obtain ⟨v, hv, vv⟩ := m
    have tl := (List.getElem?_eq_some_iff.1 hv).1
    unfold tellS
    split
    · rename_i hw
      simp only [meas, mM, hw, List.map_nil, List.sum_nil]; omega
    · rename_i u r hw
      have := count_set_le (.same t) rfl s.th u
      simp only [meas, mM, hw, List.map_cons, List.sum_cons, mF]; omega
    · rename_i l r hw
      have w0 : ∀ f ∈ r, f ∈ s.ws := fun f hf => by rw [hw]; exact List.mem_cons_of_mem _ hf
      have k : okFm ar s.th s.rows (.things l) := gd.ws _ (by rw [hw]; exact List.mem_cons_self ..)
      have wj := gd.wj
      rw [hw, List.filterMap_cons] at wj
      have rj := gd.rj
      rw [hw, List.filterMap_cons] at rj
      have g : Gd ar { s with ws := r } := ⟨gd.th, fun f hf => gd.ws f (w0 f hf), rj, wj, gd.ou⟩
      have e1 : (s.ws.map mF).sum = 10 * l.length + (r.map mF).sum := by rw [hw]; rfl
      rw [e1]
      obtain ⟨k1, k2, k3⟩ := k
      unfold enterS
      split
      · rename_i f mm hp
        have ok := gd.th t _ hv
        rw [show thAt { s with ws := r } t = v from thAt_some (s := s) hv] at hp
        subst hp
        obtain ⟨⟨a, x, en, q1, q2, q3, q5⟩, q4⟩ := ok
        have M := meas_enterF g (f := f) (l := mm ++ l)
        rw [show thAt { s with ws := r } f = .fn a x en from thAt_some (s := s) q1] at M
        simp only [List.length_append] at M
        omega
      · have M := meas_enterF g (f := t) (l := l)
        rw [show thAt { s with ws := r } t = v from thAt_some (s := s) hv] at M
        have ok := gd.th t _ hv
        cases v with
        | fn a x en => have := ok.1; simp only at M; omega
        | num n => simp only at M; omega
        | con n l => simp only at M; omega
        | part f l => simp only at M; omega
        | var u => simp only at M; omega
        | arr l => simp only at M; omega
        | need x en => simp only at M; omega
        | call f l => simp only at M; omega
        | work => simp only at M; omega
        | failed n => simp only at M; omega
        | same u => simp only at M; omega
    · rename_i al o e r hw
      have w0 : ∀ f ∈ r, f ∈ s.ws := fun f hf => by rw [hw]; exact List.mem_cons_of_mem _ hf
      have wj := gd.wj
      rw [hw, List.filterMap_cons] at wj
      have rj := gd.rj
      rw [hw, List.filterMap_cons] at rj
      have g : Gd ar { s with ws := r } := ⟨gd.th, fun f hf => gd.ws f (w0 f hf), rj, wj, gd.ou⟩
      have e1 : (s.ws.map mF).sum = 10 + (r.map mF).sum := by rw [hw]; rfl
      rw [e1]
      unfold chooseS
      split
      · simp only [meas, mM]; omega
      · cases o with
        | nil => have := meas_fail g (e := 42) (by decide); simp only at this ⊢; omega
        | cons x r2 => simp only [meas, mM]; omega
    · rename_i kk j i r hw
      have w0 : ∀ f ∈ r, f ∈ s.ws := fun f hf => by rw [hw]; exact List.mem_cons_of_mem _ hf
      have k : okFm ar s.th s.rows (.prim kk j i) := gd.ws _ (by rw [hw]; exact List.mem_cons_self ..)
      have wj := gd.wj
      rw [hw, List.filterMap_cons] at wj
      have rj := gd.rj
      rw [hw, List.filterMap_cons] at rj
      simp only [rowId, List.nodup_cons] at rj
      have g : Gd ar { s with ws := r } := ⟨gd.th, fun f hf => gd.ws f (w0 f hf), rj.2, wj, gd.ou⟩
      have e1 : (s.ws.map mF).sum = 10 * (4 - i) + (r.map mF).sum := by rw [hw]; rfl
      rw [e1]
      have i3 : i < 3 := by
        obtain ⟨h1, h2, h3, _⟩ := k
        have c : kk = 1 ∨ kk = 2 ∨ kk = 3 ∨ kk = 4 ∨ kk = 5 ∨ kk = 6 ∨ kk = 7 ∨ kk = 8 ∨ kk = 9 ∨ kk = 10 ∨ kk = 11 ∨ kk = 12 ∨ kk = 13 ∨ kk = 14 ∨ kk = 15 ∨ kk = 16 := by omega
        rcases c with rfl | rfl | rfl | rfl | rfl | rfl | rfl | rfl | rfl | rfl | rfl | rfl | rfl | rfl | rfl | rfl <;> simp only [tA] at h3 <;> omega
      unfold argumentS
      split
      · unfold argsS
        obtain ⟨h1, h2, h3, l, hj, al, ao, ak⟩ := k
        have jl := (List.getElem?_eq_some_iff.1 hj).1
        have g2 : Gd ar { s with ws := r, rows := s.rows.set j ((s.rows.getD j []).set i t) } := ⟨gd.th, fun f hf => okFm_rows (gd.ws f (w0 f hf)) (fun j' hj' => List.getElem?_set_ne (fun e => rj.1 (by subst e; exact List.mem_filterMap.2 ⟨f, hf, hj'⟩))), rj.2, wj, gd.ou⟩
        have M := meas_args g2 (k := kk) (j := j) (List.drop (i + 1) ((s.rows.set j ((s.rows.getD j []).set i t)).getD j [])) (i + 1)
        simp only at M ⊢
        omega
      · rename_i z
        have := meas_fail g (unlike_ok z)
        simp only at this ⊢
        omega
  · rename_i a b c
    cases hm : s.md with
    | ev x e => exact absurd hm (a x e)
    | kn t => exact absurd hm (b t)
    | tl t => exact absurd hm (c t)
    | rest t => rw [hm] at hf; cases hf
    | fail e => rw [hm] at hf; cases hf
    | starve => rw [hm] at hf; cases hf
end
end Go.Proofs.YtbajpejnnfacbaaGreatDoor.Lz
