/- Which programs are right: the document's check over trees, as a plain function; other names, and a bind more, change nothing. -/
import Derived.Test.YtbajpejnnfacbaaGreatDoorTree
namespace Go.Proofs.YtbajpejnnfacbaaGreatDoor
set_option linter.unusedVariables false
set_option linter.unusedSimpArgs false

abbrev Nm := List UInt8
/-- the first thing that is wrong: its place and its error -/
abbrev Flt := Option (Int × Int)
def orF (a b : Flt) : Flt := match a with | some x => some x | none => b
theorem orF_none {a b : Flt} : orF a b = none ↔ a = none ∧ b = none := by cases a <;> simp [orF]
theorem orF_left {b : Flt} : orF none b = b := rfl

def twiceN : List Nm → Bool
  | [] => false
  | x :: r => r.contains x || twiceN r
/-- the first data of that name -/
def arityN : List D → Nm → Option Int
  | [], _ => none
  | d :: r, c => if d.name = c then some d.arity else arityN r c
def atmF (a : Int) (sc : Nm → Bool) : List Atm → Flt
  | [] => none
  | t :: r => if (t.name ≠ [] ∧ sc t.name = false) then some (a, 31) else atmF a sc r
def conF (a : Int) (n : Option Int) (len : Nat) : Flt := match n with | none => some (a, 32) | some m => if m = len then none else some (a, 33)
/-- names of binds, one behind the other: those ahead -/
def namF (ahead : List Nm) : List B → Flt
  | [] => none
  | .mk n a _ _ :: r => if n = [] then some (a, 31) else if ahead.contains n then some (a, 30) else namF (n :: ahead) r
def argF (a : Int) (l : List Nm) : Flt := if 8 < l.length then some (a, 33) else if l.contains [] then some (a, 31) else if twiceN l then some (a, 30) else none
def nameB' : B → Nm | .mk n _ _ _ => n
/-- an alternative that is ahead: its kind, name and number -/
structure Hd3 where
  kind : Int
  name : Nm
  num : Int
def altF (ds : List D) (ahead : List Hd3) (k a : Int) (n : Nm) (m : Int) (vs : List Nm) : Flt :=
  if ahead.any (fun h => h.kind == 3) then some (a, 35)
  else if k = 1 then
    match arityN ds n with
    | none => some (a, 32)
    | some r => if r ≠ vs.length then some (a, 33) else if vs.contains [] then some (a, 31) else if twiceN vs then some (a, 30) else if ahead.any (fun h => h.kind == 1 && h.name == n) then some (a, 30) else none
  else if k = 2 then (if ahead.any (fun h => h.kind == 2 && h.num == m) then some (a, 30) else none)
  else if k = 3 then (if n = [] then some (a, 31) else none)
  else some (a, 2)
def altS (sc : Nm → Bool) (k : Int) (n : Nm) (vs : List Nm) : Nm → Bool := if k = 1 then (fun x => sc x || vs.contains x) else if k = 3 then (fun x => sc x || n == x) else sc
section
variable (ds : List D) (pr : Nm → Nat) (ar : Nat → Int)
mutual
def chE (sc : Nm → Bool) : E → Flt
  | .mk k a n m ts bs ks al =>
    if k = 1 then (if sc n = false then some (a, 31) else if 8 < ts.length then some (a, 33) else atmF a sc ts)
    else if k = 2 then orF (conF a (arityN ds n) ts.length) (atmF a sc ts)
    else if k = 3 then (if pr n = 0 then some (a, 34) else if ar (pr n) ≠ ts.length then some (a, 33) else atmF a sc ts)
    else if k = 4 then none
    else if k = 5 then (if bs.length = 0 ∨ ks.length = 0 then some (a, 2) else orF (namF [] bs) (orF (chBs (fun x => sc x || (bs.map nameB').contains x) bs) (chK (fun x => sc x || (bs.map nameB').contains x) ks)))
    else if k = 6 then (if ks.length = 0 ∨ al.length = 0 then some (a, 2) else orF (chK sc ks) (chAs sc [] al))
    else some (a, 2)
def chB (sc : Nm → Bool) : B → Flt
  | .mk _ a l x => orF (argF a l) (chE (fun y => sc y || l.contains y) x)
def chA (sc : Nm → Bool) (ahead : List Hd3) : A → Flt
  | .mk k a n m vs x => orF (altF ds ahead k a n m vs) (chE (altS sc k n vs) x)
def chK (sc : Nm → Bool) : List E → Flt
  | [] => none
  | x :: _ => chE sc x
def chBs (sc : Nm → Bool) : List B → Flt
  | [] => none
  | x :: r => orF (chB sc x) (chBs sc r)
def chAs (sc : Nm → Bool) (ahead : List Hd3) : List A → Flt
  | [] => none
  | .mk k a n m vs x :: r => orF (chA sc ahead (.mk k a n m vs x)) (chAs sc (⟨k, n, m⟩ :: ahead) r)
end
def datF (ahead : List Nm) : List D → Flt
  | [] => none
  | d :: r => if ahead.contains d.name then some (d.at', 30) else if d.arity < 0 ∨ 8 < d.arity then some (d.at', 33) else datF (d.name :: ahead) r
end
def mainN : Nm := [109, 97, 105, 110]
def checkP (pr : Nm → Nat) (ar : Nat → Int) (p : Pg) : Flt :=
  orF (datF [] p.datas) (orF (namF [] p.binds) (orF (chBs p.datas pr ar (fun x => (p.binds.map nameB').contains x) p.binds) (if (p.binds.map nameB').contains mainN then none else some (0, 36))))

/- other names -/
def turn (s : Nm) : Nm := if s = mainN ∨ s = [] then s else s ++ [39]
theorem turn_inj {a b : Nm} (h : turn a = turn b) : a = b := by
  unfold turn at h
  by_cases x : a = mainN ∨ a = [] <;> by_cases y : b = mainN ∨ b = []
  · rw [if_pos x, if_pos y] at h; exact h
  · rw [if_pos x, if_neg y] at h
    rcases x with x | x
    · have e := congrArg List.getLast? h
      rw [x] at e
      simp [mainN] at e
    · have e := congrArg List.length h
      rw [x] at e
      simp at e
  · rw [if_neg x, if_pos y] at h
    rcases y with y | y
    · have e := congrArg List.getLast? h
      rw [y] at e
      simp [mainN] at e
    · have e := congrArg List.length h
      rw [y] at e
      simp at e
  · rw [if_neg x, if_neg y] at h
    exact List.append_cancel_right h
theorem turn_nil {a : Nm} : turn a = [] ↔ a = [] := by
  constructor
  · intro h
    exact turn_inj (h.trans (by simp [turn]))
  · rintro rfl; simp [turn]
theorem turn_main : turn mainN = mainN := by simp [turn]
theorem beq_turn (x y : List UInt8) : (turn x == turn y) = (x == y) := by
  rw [Bool.eq_iff_iff, beq_iff_eq, beq_iff_eq]
  exact ⟨turn_inj, fun h => by rw [h]⟩
theorem turn_has (l : List Nm) (x : Nm) : (l.map turn).contains (turn x) = l.contains x := by
  induction l with
  | nil => rfl
  | cons y r ih =>
    simp only [List.map_cons, List.contains_cons, ih, beq_turn]
theorem turn_has_nil (l : List Nm) : (l.map turn).contains [] = l.contains [] := by
  have := turn_has l []
  rwa [show turn [] = [] by simp [turn]] at this
theorem turn_twice (l : List Nm) : twiceN (l.map turn) = twiceN l := by
  induction l with
  | nil => rfl
  | cons y r ih => simp only [List.map_cons, twiceN, ih, turn_has]
def turnT (t : Atm) : Atm := ⟨turn t.name, t.num⟩
mutual
def turnE : E → E
  | .mk k a n m ts bs ks al => .mk k a (if k = 1 then turn n else n) m (ts.map turnT) (turnBs bs) (turnEs ks) (turnAs al)
def turnB : B → B
  | .mk n a l x => .mk (turn n) a (l.map turn) (turnE x)
def turnA : A → A
  | .mk k a n m vs x => .mk k a (if k = 3 then turn n else n) m (vs.map turn) (turnE x)
def turnEs : List E → List E
  | [] => []
  | x :: r => turnE x :: turnEs r
def turnBs : List B → List B
  | [] => []
  | x :: r => turnB x :: turnBs r
def turnAs : List A → List A
  | [] => []
  | x :: r => turnA x :: turnAs r
end
theorem turnEs_len : ∀ l, (turnEs l).length = l.length
  | [] => rfl
  | x :: r => by rw [turnEs, List.length_cons, turnEs_len r, List.length_cons]
theorem turnBs_len : ∀ l, (turnBs l).length = l.length
  | [] => rfl
  | x :: r => by rw [turnBs, List.length_cons, turnBs_len r, List.length_cons]
theorem turnAs_len : ∀ l, (turnAs l).length = l.length
  | [] => rfl
  | x :: r => by rw [turnAs, List.length_cons, turnAs_len r, List.length_cons]
theorem turnBs_names : ∀ l, (turnBs l).map nameB' = (l.map nameB').map turn
  | [] => rfl
  | .mk n a l x :: r => by simp only [turnBs, turnB, List.map_cons, nameB', turnBs_names r]
theorem turn_atm (a : Int) (sc sc' : Nm → Bool) (h : ∀ x, sc' (turn x) = sc x) : ∀ l, atmF a sc' (l.map turnT) = atmF a sc l
  | [] => rfl
  | t :: r => by
    simp only [List.map_cons, atmF, turnT, h, turn_atm a sc sc' h r, ne_eq, turn_nil]
theorem turn_nam : ∀ (ahead : List Nm) (l : List B), namF (ahead.map turn) (turnBs l) = namF ahead l
  | _, [] => rfl
  | ahead, .mk n a l x :: r => by
    have ih := turn_nam (n :: ahead) r
    rw [List.map_cons] at ih
    simp only [turnBs, turnB, namF, turn_nil, turn_has, ih]
theorem turn_arg (a : Int) (l : List Nm) : argF a (l.map turn) = argF a l := by
  unfold argF
  rw [List.length_map, turn_has_nil, turn_twice]
def turnH (h : Hd3) : Hd3 := ⟨h.kind, if h.kind = 3 then turn h.name else h.name, h.num⟩
theorem turn_alt (ds : List D) (ahead : List Hd3) (k a : Int) (n : Nm) (m : Int) (vs : List Nm) : altF ds (ahead.map turnH) k a (if k = 3 then turn n else n) m (vs.map turn) = altF ds ahead k a n m vs := by
  have e1 : (ahead.map turnH).any (fun h => h.kind == 3) = ahead.any (fun h => h.kind == 3) := by rw [List.any_map]; rfl
  have e2 : (ahead.map turnH).any (fun h => h.kind == 2 && h.num == m) = ahead.any (fun h => h.kind == 2 && h.num == m) := by rw [List.any_map]; rfl
  have e3 : (ahead.map turnH).any (fun h => h.kind == 1 && h.name == n) = ahead.any (fun h => h.kind == 1 && h.name == n) := by
    rw [List.any_map]
    congr 1
    funext h
    simp only [Function.comp, turnH]
    by_cases q : h.kind = 1
    · rw [if_neg (by omega)]
    · rw [show (h.kind == 1) = false from beq_eq_false_iff_ne.2 q, Bool.false_and, Bool.false_and]
  unfold altF
  rw [e1, e2]
  by_cases k3 : k = 3
  · subst k3
    simp [turn_nil]
  · rw [if_neg k3, e3, List.length_map, turn_has_nil, turn_twice]
theorem turn_sc (sc sc' : Nm → Bool) (h : ∀ x, sc' (turn x) = sc x) (l : List Nm) : ∀ x, (fun y => sc' y || (l.map turn).contains y) (turn x) = (fun y => sc y || l.contains y) x := fun x => by
  simp only [h, turn_has]
theorem turn_altS (sc sc' : Nm → Bool) (h : ∀ x, sc' (turn x) = sc x) (k : Int) (n : Nm) (vs : List Nm) : ∀ x, altS sc' k (if k = 3 then turn n else n) (vs.map turn) (turn x) = altS sc k n vs x := fun x => by
  unfold altS
  by_cases k1 : k = 1
  · rw [if_pos k1, if_pos k1]; simp only [h, turn_has]
  · by_cases k3 : k = 3
    · rw [if_neg k1, if_pos k3, if_neg k1, if_pos k3, if_pos k3]
      simp only [h, beq_turn]
    · rw [if_neg k1, if_neg k3, if_neg k1, if_neg k3]; exact h x
mutual
theorem turn_E (ds : List D) (pr : Nm → Nat) (ar : Nat → Int) : ∀ (x : E) (sc sc' : Nm → Bool), (∀ x, sc' (turn x) = sc x) → chE ds pr ar sc' (turnE x) = chE ds pr ar sc x
  | .mk k a n m ts bs ks al, sc, sc', h => by
    have hs := turn_sc sc sc' h (bs.map nameB')
    have i1 := turn_Bs ds pr ar bs (fun x => sc x || (bs.map nameB').contains x) (fun x => sc' x || ((bs.map nameB').map turn).contains x) hs
    have i2 := turn_K ds pr ar ks (fun x => sc x || (bs.map nameB').contains x) (fun x => sc' x || ((bs.map nameB').map turn).contains x) hs
    have i3 := turn_K ds pr ar ks sc sc' h
    have i4 := turn_As ds pr ar al sc sc' h []
    simp only [turnE, chE, List.length_map, turnBs_len, turnEs_len, turnAs_len, turn_atm a sc sc' h, turnBs_names, i1, i2, i3]
    have i5 : namF [] (turnBs bs) = namF [] bs := turn_nam [] bs
    rw [i5, show chAs ds pr ar sc' [] (turnAs al) = chAs ds pr ar sc [] al from i4]
    by_cases k1 : k = 1
    · simp only [k1, if_true, h]
    · simp only [k1, if_false]
theorem turn_B (ds : List D) (pr : Nm → Nat) (ar : Nat → Int) : ∀ (x : B) (sc sc' : Nm → Bool), (∀ x, sc' (turn x) = sc x) → chB ds pr ar sc' (turnB x) = chB ds pr ar sc x
  | .mk n a l x, sc, sc', h => by
    simp only [turnB, chB, turn_arg, turn_E ds pr ar x (fun y => sc y || l.contains y) (fun y => sc' y || (l.map turn).contains y) (turn_sc sc sc' h l)]
theorem turn_A (ds : List D) (pr : Nm → Nat) (ar : Nat → Int) : ∀ (x : A) (sc sc' : Nm → Bool), (∀ x, sc' (turn x) = sc x) → ∀ ahead, chA ds pr ar sc' (ahead.map turnH) (turnA x) = chA ds pr ar sc ahead x
  | .mk k a n m vs x, sc, sc', h, ahead => by
    simp only [turnA, chA, turn_alt, turn_E ds pr ar x (altS sc k n vs) (altS sc' k (if k = 3 then turn n else n) (vs.map turn)) (turn_altS sc sc' h k n vs)]
theorem turn_K (ds : List D) (pr : Nm → Nat) (ar : Nat → Int) : ∀ (l : List E) (sc sc' : Nm → Bool), (∀ x, sc' (turn x) = sc x) → chK ds pr ar sc' (turnEs l) = chK ds pr ar sc l
  | [], _, _, _ => rfl
  | x :: r, sc, sc', h => by simp only [turnEs, chK, turn_E ds pr ar x sc sc' h]
theorem turn_Bs (ds : List D) (pr : Nm → Nat) (ar : Nat → Int) : ∀ (l : List B) (sc sc' : Nm → Bool), (∀ x, sc' (turn x) = sc x) → chBs ds pr ar sc' (turnBs l) = chBs ds pr ar sc l
  | [], _, _, _ => rfl
  | x :: r, sc, sc', h => by simp only [turnBs, chBs, turn_B ds pr ar x sc sc' h, turn_Bs ds pr ar r sc sc' h]
theorem turn_As (ds : List D) (pr : Nm → Nat) (ar : Nat → Int) : ∀ (l : List A) (sc sc' : Nm → Bool), (∀ x, sc' (turn x) = sc x) → ∀ ahead, chAs ds pr ar sc' (ahead.map turnH) (turnAs l) = chAs ds pr ar sc ahead l
  | [], _, _, _, _ => rfl
  | .mk k a n m vs x :: r, sc, sc', h, ahead => by
    have i1 := turn_A ds pr ar (.mk k a n m vs x) sc sc' h ahead
    have i2 := turn_As ds pr ar r sc sc' h (⟨k, n, m⟩ :: ahead)
    rw [List.map_cons] at i2
    simp only [turnAs, turnA, chAs] at i1 i2 ⊢
    rw [i1]
    exact congrArg _ i2
end
theorem turn_check (pr : Nm → Nat) (ar : Nat → Int) (p : Pg) : checkP pr ar ⟨p.datas, turnBs p.binds⟩ = checkP pr ar p := by
  have e := turn_has (p.binds.map nameB') mainN
  rw [turn_main] at e
  simp only [checkP, turnBs_names, e]
  rw [show namF [] (turnBs p.binds) = namF [] p.binds from turn_nam [] p.binds, turn_Bs p.datas pr ar p.binds (fun x => (p.binds.map nameB').contains x) (fun x => ((p.binds.map nameB').map turn).contains x) (fun x => turn_has (p.binds.map nameB') x)]
end Go.Proofs.YtbajpejnnfacbaaGreatDoor
