/- The cells of tokens. -/
import Derived.Test.YtbajpejnnfacbaaGreatDoorTok
import Derived.Test.YtbajpejnnfacbaaGreatDoorPure
import Derived.Test.YtbajpejnnfacbaaGreatDoorTree
import Derived.Laws.AppendOwn
import Derived.Below
import Derived.Laws.OwnMore
import Derived.WalkLawsBesides
import Derived.Deep.AppendLies
import Derived.OwnWalk
import Derived.Test.YtbajpejnnfacbaaGreatDoorScpA
import Derived.WalkKit
import Derived.LoopTactic
import Derived.Laws.Strings
import Derived.WideShapes
import Derived.Deep.RegionWith
import Derived.Deep.RegionHeld3
namespace Go.Proofs.YtbajpejnnfacbaaGreatDoor
open Go.RowKit

def tokC (t : Tok) : List Value := [.int .i64 t.kind, .string (str t.text), .int .i64 t.num, .int .i64 t.at']
def cellsT (ts : List Tok) : List Value := ts.flatMap tokC
theorem cellsT_snoc (ts : List Tok) (t : Tok) : cellsT (ts ++ [t]) = cellsT ts ++ tokC t := by simp [cellsT]

end Go.Proofs.YtbajpejnnfacbaaGreatDoor

/- Scanning from a place within a text on: of no program. -/
namespace Go.Proofs.YtbajpejnnfacbaaGreatDoor

theorem skip_idem : ∀ (b : Bool) (l : List UInt8), skipN false (l.drop (skipN b l)) = 0
  | true, [] => rfl
  | false, [] => rfl
  | true, c :: r => by
    rw [skipN]
    split
    · rw [List.drop_succ_cons]; exact skip_idem false r
    · rw [List.drop_succ_cons]; exact skip_idem true r
  | false, c :: r => by
    by_cases h1 : bl c.toNat = true
    · rw [skipN, if_pos h1, List.drop_succ_cons]; exact skip_idem false r
    · by_cases h2 : c.toNat = 45 ∧ (r.head?.map (·.toNat)) = some 45
      · rw [skipN, if_neg h1, if_pos h2, List.drop_succ_cons]; exact skip_idem true r
      · have : skipN false (c :: r) = 0 := by rw [skipN, if_neg h1, if_neg h2]
        rw [this, List.drop_zero, this]

theorem scanF_end (f : Nat) (l : List UInt8) (a : Nat) (h : ¬ skipN false l < l.length) : scanF f l a = .ok [] := by
  cases f with
  | zero => rfl
  | succ f => rw [scanF]; simp only [h, if_false]
theorem scanF_err (f : Nat) (l : List UInt8) (a : Nat) (h : skipN false l < l.length) {e : Int} (hr : readT (l.drop (skipN false l)) = .error e) : scanF (f + 1) l a = .error (a + skipN false l, e) := by
  rw [scanF]; simp only [h, if_true, hr]
theorem scanF_ok (f : Nat) (l : List UInt8) (a : Nat) (h : skipN false l < l.length) {t : Tk} (hr : readT (l.drop (skipN false l)) = .ok t) :
    scanF (f + 1) l a = ahead [⟨t.kind, t.text, t.num, a + skipN false l⟩] (scanF f ((l.drop (skipN false l)).drop t.len) (a + skipN false l + t.len)) := by
  rw [scanF]; simp only [h, if_true, hr]
  cases scanF f ((l.drop (skipN false l)).drop t.len) (a + skipN false l + t.len) <;> rfl

theorem from_more (l : List UInt8) (i f : Nat) (h : (l.drop i).length < f) : scanF f (l.drop i) i = from' l i :=
  scanF_more _ _ _ _ h (by simp only [List.length_drop]; omega)
theorem from_end (l : List UInt8) (i : Nat) (h : l.length ≤ i) : from' l i = .ok [] := by
  unfold from'
  rw [List.drop_eq_nil_of_le h]
  exact scanF_end _ _ _ (by simp)
/-- blanks ahead change nothing -/
theorem from_skip (l : List UInt8) (i : Nat) : from' l (i + skipN false (l.drop i)) = from' l i := by
  have hle := skipN_le false (l.drop i)
  have hd : l.drop (i + skipN false (l.drop i)) = (l.drop i).drop (skipN false (l.drop i)) := by rw [List.drop_drop]
  have h0 : skipN false (l.drop (i + skipN false (l.drop i))) = 0 := by rw [hd]; exact skip_idem false _
  by_cases h : skipN false (l.drop i) < (l.drop i).length
  · have h' : skipN false (l.drop (i + skipN false (l.drop i))) < (l.drop (i + skipN false (l.drop i))).length := by
      rw [h0, hd]; simp only [List.length_drop] at h ⊢; omega
    unfold from'
    cases e : readT ((l.drop i).drop (skipN false (l.drop i))) with
    | error er =>
      rw [scanF_err _ _ _ h e, scanF_err _ _ _ h' (e := er) (by rw [h0, hd, List.drop_zero]; exact e), h0]
      rfl
    | ok t =>
      rw [scanF_ok _ _ _ h e, scanF_ok _ _ _ h' (t := t) (by rw [h0, hd, List.drop_zero]; exact e), h0, hd]
      rfl
  · have h' : ¬ skipN false (l.drop (i + skipN false (l.drop i))) < (l.drop (i + skipN false (l.drop i))).length := by
      rw [h0, hd]; simp only [List.length_drop] at h ⊢; omega
    unfold from'
    rw [scanF_end _ _ _ h, scanF_end _ _ _ h']
theorem from_err (l : List UInt8) (i : Nat) (h : i < l.length) (h0 : skipN false (l.drop i) = 0) {e : Int} (hr : readT (l.drop i) = .error e) : from' l i = .error (i, e) := by
  unfold from'
  rw [scanF_err _ _ _ (by rw [h0]; simp only [List.length_drop]; omega) (e := e) (by rw [h0, List.drop_zero]; exact hr), h0]
  rfl
theorem from_ok (l : List UInt8) (i : Nat) (h : i < l.length) (h0 : skipN false (l.drop i) = 0) {t : Tk} (hr : readT (l.drop i) = .ok t) :
    from' l i = ahead [⟨t.kind, t.text, t.num, i⟩] (from' l (i + t.len)) := by
  unfold from'
  have hl := readT_len hr
  rw [scanF_ok _ _ _ (by rw [h0]; simp only [List.length_drop]; omega) (t := t) (by rw [h0, List.drop_zero]; exact hr), h0, List.drop_zero, List.drop_drop]
  rw [show i + 0 = i from rfl, scanF_more l.length (l.length + 1) (l.drop (i + t.len)) (i + t.len) (by simp only [List.length_drop]; omega) (by simp only [List.length_drop]; omega)]
theorem scanAll_from (l : List UInt8) (h : l.length ≤ 16384) : scanAll l = from' l 0 := by
  unfold scanAll from'
  rw [if_neg (by omega), List.drop_zero]
end Go.Proofs.YtbajpejnnfacbaaGreatDoor

/- Layer 6, made ready: trees in memory: what the cells of an expression, a bind, an alternative are; what keeps them: of no program. -/
namespace Go.Proofs.YtbajpejnnfacbaaGreatDoor
open Go.RowKit
set_option linter.unusedVariables false

def strC (l : List (List UInt8)) : List Value := l.map fun s => .string (str s)
def atmC (l : List Atm) : List Value := l.flatMap fun a => [.string (str a.name), .int .i64 a.num]
def datC (l : List D) : List Value := l.flatMap fun d => [.string (str d.name), .int .i64 d.arity, .int .i64 d.at']
/-- a slice of n items whose cells are those: its block is one of 'ok' -/
def IsRow (w : World) (ok : Nat → Prop) (xs : List Value) (n : Nat) (v : Value) : Prop :=
  ∃ ga cap, v = .slice ga n cap ∧ (n ≤ cap ∧ n ≤ 1000000000) ∧ (0 < n → ∃ g off, ga = some ⟨g, off, none⟩ ∧ ok g ∧ ∀ j u, xs[j]? = some u → w.cell? ⟨g, off + j, none⟩ = some u)
mutual
def isE (w : World) (ok : Nat → Prop) : E → List Value → Prop
  | .mk k a n m ts bs ks al, c => ∃ vt vb vk va xb xk xa, c = [.int .i64 k, .int .i64 a, .string (str n), .int .i64 m, vt, vb, vk, va] ∧ IsRow w ok (atmC ts) ts.length vt ∧
      IsRow w ok xb bs.length vb ∧ isBs w ok bs xb ∧ IsRow w ok xk ks.length vk ∧ isEs w ok ks xk ∧ IsRow w ok xa al.length va ∧ isAs w ok al xa
def isB (w : World) (ok : Nat → Prop) : B → List Value → Prop
  | .mk n a al x, c => ∃ va d, c = [.string (str n), .int .i64 a, va] ++ d ∧ IsRow w ok (strC al) al.length va ∧ isE w ok x d
def isA (w : World) (ok : Nat → Prop) : A → List Value → Prop
  | .mk k a n m vs x, c => ∃ vv d, c = [.int .i64 k, .int .i64 a, .string (str n), .int .i64 m, vv] ++ d ∧ IsRow w ok (strC vs) vs.length vv ∧ isE w ok x d
def isEs (w : World) (ok : Nat → Prop) : List E → List Value → Prop
  | [], c => c = []
  | x :: r, c => ∃ c1 c2, c = c1 ++ c2 ∧ isE w ok x c1 ∧ isEs w ok r c2
def isBs (w : World) (ok : Nat → Prop) : List B → List Value → Prop
  | [], c => c = []
  | x :: r, c => ∃ c1 c2, c = c1 ++ c2 ∧ isB w ok x c1 ∧ isBs w ok r c2
def isAs (w : World) (ok : Nat → Prop) : List A → List Value → Prop
  | [], c => c = []
  | x :: r, c => ∃ c1 c2, c = c1 ++ c2 ∧ isA w ok x c1 ∧ isAs w ok r c2
end

/-- from w to w' nothing has turned in the blocks of 'ok', and they are of 'ok'' -/
structure Keeps (ok ok' : Nat → Prop) (w w' : World) : Prop where
  cell : ∀ g off u, ok g → w.cell? ⟨g, off, none⟩ = some u → w'.cell? ⟨g, off, none⟩ = some u
  ok : ∀ g, ok g → ok' g
theorem IsRow.keeps {ok ok' : Nat → Prop} {w w' : World} {xs : List Value} {n : Nat} {v : Value} (hk : Keeps ok ok' w w') (h : IsRow w ok xs n v) : IsRow w' ok' xs n v := by
  obtain ⟨ga, cap, rfl, hc, h⟩ := h
  refine ⟨ga, cap, rfl, hc, fun hn => ?_⟩
  obtain ⟨g, off, rfl, ho, hx⟩ := h hn
  exact ⟨g, off, rfl, hk.ok g ho, fun j u hj => hk.cell g _ u ho (hx j u hj)⟩
mutual
theorem isE_keeps {ok ok' : Nat → Prop} {w w' : World} (hk : Keeps ok ok' w w') : ∀ (x : E) (c : List Value), isE w ok x c → isE w' ok' x c
  | .mk k a n m ts bs ks al, c, h => by
    simp only [isE] at h ⊢
    obtain ⟨vt, vb, vk, va, xb, xk, xa, rfl, h1, h2, h3, h4, h5, h6, h7⟩ := h
    exact ⟨vt, vb, vk, va, xb, xk, xa, rfl, h1.keeps hk, h2.keeps hk, isBs_keeps hk bs xb h3, h4.keeps hk, isEs_keeps hk ks xk h5, h6.keeps hk, isAs_keeps hk al xa h7⟩
theorem isB_keeps {ok ok' : Nat → Prop} {w w' : World} (hk : Keeps ok ok' w w') : ∀ (x : B) (c : List Value), isB w ok x c → isB w' ok' x c
  | .mk n a al x, c, h => by
    simp only [isB] at h ⊢
    obtain ⟨va, d, rfl, h1, h2⟩ := h
    exact ⟨va, d, rfl, h1.keeps hk, isE_keeps hk x d h2⟩
theorem isA_keeps {ok ok' : Nat → Prop} {w w' : World} (hk : Keeps ok ok' w w') : ∀ (x : A) (c : List Value), isA w ok x c → isA w' ok' x c
  | .mk k a n m vs x, c, h => by
    simp only [isA] at h ⊢
    obtain ⟨va, d, rfl, h1, h2⟩ := h
    exact ⟨va, d, rfl, h1.keeps hk, isE_keeps hk x d h2⟩
theorem isEs_keeps {ok ok' : Nat → Prop} {w w' : World} (hk : Keeps ok ok' w w') : ∀ (x : List E) (c : List Value), isEs w ok x c → isEs w' ok' x c
  | [], c, h => by simp only [isEs] at h ⊢; exact h
  | x :: r, c, h => by
    simp only [isEs] at h ⊢
    obtain ⟨c1, c2, rfl, h1, h2⟩ := h
    exact ⟨c1, c2, rfl, isE_keeps hk x c1 h1, isEs_keeps hk r c2 h2⟩
theorem isBs_keeps {ok ok' : Nat → Prop} {w w' : World} (hk : Keeps ok ok' w w') : ∀ (x : List B) (c : List Value), isBs w ok x c → isBs w' ok' x c
  | [], c, h => by simp only [isBs] at h ⊢; exact h
  | x :: r, c, h => by
    simp only [isBs] at h ⊢
    obtain ⟨c1, c2, rfl, h1, h2⟩ := h
    exact ⟨c1, c2, rfl, isB_keeps hk x c1 h1, isBs_keeps hk r c2 h2⟩
theorem isAs_keeps {ok ok' : Nat → Prop} {w w' : World} (hk : Keeps ok ok' w w') : ∀ (x : List A) (c : List Value), isAs w ok x c → isAs w' ok' x c
  | [], c, h => by simp only [isAs] at h ⊢; exact h
  | x :: r, c, h => by
    simp only [isAs] at h ⊢
    obtain ⟨c1, c2, rfl, h1, h2⟩ := h
    exact ⟨c1, c2, rfl, isA_keeps hk x c1 h1, isAs_keeps hk r c2 h2⟩
end

/-! ## One more behind a list -/
theorem isEs_snoc {w : World} {ok : Nat → Prop} : ∀ (l : List E) (x : E) (c d : List Value), isEs w ok l c → isE w ok x d → isEs w ok (l ++ [x]) (c ++ d)
  | [], x, c, d, h, h' => by simp only [isEs] at h; subst h; simp only [List.nil_append, isEs]; exact ⟨d, [], by simp, h', rfl⟩
  | y :: r, x, c, d, h, h' => by
    simp only [isEs] at h
    obtain ⟨c1, c2, rfl, h1, h2⟩ := h
    simp only [List.cons_append, isEs]
    exact ⟨c1, c2 ++ d, List.append_assoc _ _ _, h1, isEs_snoc r x c2 d h2 h'⟩
theorem isBs_snoc {w : World} {ok : Nat → Prop} : ∀ (l : List B) (x : B) (c d : List Value), isBs w ok l c → isB w ok x d → isBs w ok (l ++ [x]) (c ++ d)
  | [], x, c, d, h, h' => by simp only [isBs] at h; subst h; simp only [List.nil_append, isBs]; exact ⟨d, [], by simp, h', rfl⟩
  | y :: r, x, c, d, h, h' => by
    simp only [isBs] at h
    obtain ⟨c1, c2, rfl, h1, h2⟩ := h
    simp only [List.cons_append, isBs]
    exact ⟨c1, c2 ++ d, List.append_assoc _ _ _, h1, isBs_snoc r x c2 d h2 h'⟩
theorem isAs_snoc {w : World} {ok : Nat → Prop} : ∀ (l : List A) (x : A) (c d : List Value), isAs w ok l c → isA w ok x d → isAs w ok (l ++ [x]) (c ++ d)
  | [], x, c, d, h, h' => by simp only [isAs] at h; subst h; simp only [List.nil_append, isAs]; exact ⟨d, [], by simp, h', rfl⟩
  | y :: r, x, c, d, h, h' => by
    simp only [isAs] at h
    obtain ⟨c1, c2, rfl, h1, h2⟩ := h
    simp only [List.cons_append, isAs]
    exact ⟨c1, c2 ++ d, List.append_assoc _ _ _, h1, isAs_snoc r x c2 d h2 h'⟩

/-! ## How many cells -/
theorem isE_length {w : World} {ok : Nat → Prop} : ∀ (x : E) (c : List Value), isE w ok x c → c.length = 8
  | .mk k a n m ts bs ks al, c, h => by
    simp only [isE] at h
    obtain ⟨vt, vb, vk, va, xb, xk, xa, rfl, _⟩ := h
    rfl
theorem isB_length {w : World} {ok : Nat → Prop} : ∀ (x : B) (c : List Value), isB w ok x c → c.length = 11
  | .mk n a al x, c, h => by
    simp only [isB] at h
    obtain ⟨va, d, rfl, h1, h2⟩ := h
    simp [isE_length x d h2]
theorem isA_length {w : World} {ok : Nat → Prop} : ∀ (x : A) (c : List Value), isA w ok x c → c.length = 13
  | .mk k a n m vs x, c, h => by
    simp only [isA] at h
    obtain ⟨va, d, rfl, h1, h2⟩ := h
    simp [isE_length x d h2]
theorem isEs_length {w : World} {ok : Nat → Prop} : ∀ (l : List E) (c : List Value), isEs w ok l c → c.length = l.length * 8
  | [], c, h => by simp only [isEs] at h; subst h; rfl
  | x :: r, c, h => by
    simp only [isEs] at h
    obtain ⟨c1, c2, rfl, h1, h2⟩ := h
    have a := isE_length x c1 h1
    have b := isEs_length r c2 h2
    simp only [List.length_append, List.length_cons]
    omega
theorem isBs_length {w : World} {ok : Nat → Prop} : ∀ (l : List B) (c : List Value), isBs w ok l c → c.length = l.length * 11
  | [], c, h => by simp only [isBs] at h; subst h; rfl
  | x :: r, c, h => by
    simp only [isBs] at h
    obtain ⟨c1, c2, rfl, h1, h2⟩ := h
    have a := isB_length x c1 h1
    have b := isBs_length r c2 h2
    simp only [List.length_append, List.length_cons]
    omega
theorem isAs_length {w : World} {ok : Nat → Prop} : ∀ (l : List A) (c : List Value), isAs w ok l c → c.length = l.length * 13
  | [], c, h => by simp only [isAs] at h; subst h; rfl
  | x :: r, c, h => by
    simp only [isAs] at h
    obtain ⟨c1, c2, rfl, h1, h2⟩ := h
    have a := isA_length x c1 h1
    have b := isAs_length r c2 h2
    simp only [List.length_append, List.length_cons]
    omega
/-! ## The i-th of a list -/
theorem isEs_get {w : World} {ok : Nat → Prop} : ∀ (l : List E) (c : List Value), isEs w ok l c → ∀ i (h : i < l.length), ∃ d, isE w ok (l[i]'h) d ∧ ∀ j u, d[j]? = some u → c[i * 8 + j]? = some u
  | [], _, _, i, h => absurd h (Nat.not_lt_zero _)
  | x :: r, c, hc, i, h => by
    simp only [isEs] at hc
    obtain ⟨c1, c2, rfl, h1, h2⟩ := hc
    have z := isE_length x c1 h1
    cases i with
    | zero =>
      refine ⟨c1, h1, fun j u hj => ?_⟩
      have : j < c1.length := (List.getElem?_eq_some_iff.1 hj).1
      rw [Nat.zero_mul, Nat.zero_add, List.getElem?_append_left this]
      exact hj
    | succ i =>
      obtain ⟨d, a, b⟩ := isEs_get r c2 h2 i (by simpa using h)
      refine ⟨d, a, fun j u hj => ?_⟩
      rw [List.getElem?_append_right (by omega), z, show (i + 1) * 8 + j - 8 = i * 8 + j by omega]
      exact b j u hj
theorem isBs_get {w : World} {ok : Nat → Prop} : ∀ (l : List B) (c : List Value), isBs w ok l c → ∀ i (h : i < l.length), ∃ d, isB w ok (l[i]'h) d ∧ ∀ j u, d[j]? = some u → c[i * 11 + j]? = some u
  | [], _, _, i, h => absurd h (Nat.not_lt_zero _)
  | x :: r, c, hc, i, h => by
    simp only [isBs] at hc
    obtain ⟨c1, c2, rfl, h1, h2⟩ := hc
    have z := isB_length x c1 h1
    cases i with
    | zero =>
      refine ⟨c1, h1, fun j u hj => ?_⟩
      have : j < c1.length := (List.getElem?_eq_some_iff.1 hj).1
      rw [Nat.zero_mul, Nat.zero_add, List.getElem?_append_left this]
      exact hj
    | succ i =>
      obtain ⟨d, a, b⟩ := isBs_get r c2 h2 i (by simpa using h)
      refine ⟨d, a, fun j u hj => ?_⟩
      rw [List.getElem?_append_right (by omega), z, show (i + 1) * 11 + j - 11 = i * 11 + j by omega]
      exact b j u hj
theorem isAs_get {w : World} {ok : Nat → Prop} : ∀ (l : List A) (c : List Value), isAs w ok l c → ∀ i (h : i < l.length), ∃ d, isA w ok (l[i]'h) d ∧ ∀ j u, d[j]? = some u → c[i * 13 + j]? = some u
  | [], _, _, i, h => absurd h (Nat.not_lt_zero _)
  | x :: r, c, hc, i, h => by
    simp only [isAs] at hc
    obtain ⟨c1, c2, rfl, h1, h2⟩ := hc
    have z := isA_length x c1 h1
    cases i with
    | zero =>
      refine ⟨c1, h1, fun j u hj => ?_⟩
      have : j < c1.length := (List.getElem?_eq_some_iff.1 hj).1
      rw [Nat.zero_mul, Nat.zero_add, List.getElem?_append_left this]
      exact hj
    | succ i =>
      obtain ⟨d, a, b⟩ := isAs_get r c2 h2 i (by simpa using h)
      refine ⟨d, a, fun j u hj => ?_⟩
      rw [List.getElem?_append_right (by omega), z, show (i + 1) * 13 + j - 13 = i * 13 + j by omega]
      exact b j u hj

/-! ## What keeps -/
theorem keeps_below {ok ok' : Nat → Prop} {w w' : World} (h : Below w.heap.size w w') (ho : ∀ g, ok g → ok' g) : Keeps ok ok' w w' :=
  ⟨fun g off u _ hu => (World.cell?_of_block (h.block g (World.block_lt_of_cell? _ _ hu))).trans hu, ho⟩
theorem keeps_grown {ok ok' : Nat → Prop} {w w' : World} {row : Option Nat} (h : w.grownBy w' row) (hne : ∀ g, ok g → some g ≠ row) (ho : ∀ g, ok g → ok' g) : Keeps ok ok' w w' :=
  ⟨fun g off u hg hu => h.cell hu (hne g hg), ho⟩
/-- nothing below n has turned but the block b -/
structure But (b n : Nat) (w w' : World) : Prop where
  os : w'.os = w.os
  tape : w'.tape = w.tape
  output : w'.output = w.output
  size : w.heap.size ≤ w'.heap.size
  block : ∀ k, k < n → k ≠ b → w'.heap[k]? = w.heap[k]?
theorem But.refl (b n : Nat) (w : World) : But b n w w := ⟨rfl, rfl, rfl, Nat.le_refl _, fun _ _ _ => rfl⟩
theorem But.trans {b n m : Nat} {w w1 w2 : World} (h : But b n w w1) (h' : But b m w1 w2) (hm : n ≤ m) : But b n w w2 :=
  ⟨h'.os.trans h.os, h'.tape.trans h.tape, h'.output.trans h.output, Nat.le_trans h.size h'.size, fun k hk hb => (h'.block k (Nat.lt_of_lt_of_le hk hm) hb).trans (h.block k hk hb)⟩
theorem But.of_below {b n m : Nat} {w w' : World} (h : Below m w w') (hm : n ≤ m) : But b n w w' := ⟨h.os, h.tape, h.output, h.size, fun k hk _ => h.block k (Nat.lt_of_lt_of_le hk hm)⟩
theorem But.of_grown {b n : Nat} {w w' : World} {row : Option Nat} (h : w.grownBy w' row) (hn : n ≤ w.heap.size) (hr : ∀ k, row = some k → n ≤ k ∨ k = b) : But b n w w' :=
  ⟨h.os, h.tape, h.output, h.size, fun k hk hb => h.block k (Nat.lt_of_lt_of_le hk hn) (fun e => by rcases hr k e.symm with z | z; omega; exact hb z)⟩
theorem keeps_but {ok ok' : Nat → Prop} {b : Nat} {w w' : World} (h : But b w.heap.size w w') (hne : ∀ g, ok g → g ≠ b) (ho : ∀ g, ok g → ok' g) : Keeps ok ok' w w' :=
  ⟨fun g off u hg hu => (World.cell?_of_block (h.block g (World.block_lt_of_cell? _ _ hu) (hne g hg))).trans hu, ho⟩
theorem row_of_owns {w : World} {base size n : Nat} {e : TypeId} {v : Value} {xs : List Value} {ok : Nat → Prop} (h : w.ownsRow base e size v n xs) (ho : ∀ g, v.ownBlock = some g → ok g) (hs : n ≤ 1000000000) : IsRow w ok xs n v := by
  rcases h.2 with ⟨rfl, h0⟩ | ⟨g, cap, cur, rfl, hb, hg, X⟩
  · subst h0
    exact ⟨none, 0, rfl, ⟨Nat.le_refl _, hs⟩, fun z => absurd z (Nat.lt_irrefl 0)⟩
  · refine ⟨_, cap, rfl, ⟨X.1, hs⟩, fun _ => ⟨g, 0, rfl, ho g rfl, fun j u hj => ?_⟩⟩
    have := h.cells (g := g) rfl j u hj
    simp only [Addr.add, Nat.zero_add] at this ⊢
    split at this
    · rename_i z; subst z; exact this
    · exact this

end Go.Proofs.YtbajpejnnfacbaaGreatDoor

/- Layer 6: what tokens of a text are like: numbers have no text, no word but a reserved one has a reserved one's text: of no program. -/
namespace Go.Proofs.YtbajpejnnfacbaaGreatDoor

/-- a text with which a sign or a reserved word stands in the grammar -/
def isMark (s : List UInt8) : Bool :=
  resv s || match s with
    | [] => false
    | c :: _ => !(sm c.toNat) && !(gr c.toNat) && !(decide (c.toNat = 35))
structure GoodK (kind : Int) (text : List UInt8) (num : Int) : Prop where
  int : kind = 4 → text = []
  name : kind = 1 → num = 0
  mark : isMark text = true → kind = 5 ∨ kind = 6
  lo : -9223372036854775808 ≤ num
  hi : num ≤ 9223372036854775807
  kd : 1 ≤ kind ∧ kind ≤ 6
theorem numOf_bounds {t : List UInt8} {v : Int} (h : numOf t = some v) : -9223372036854775808 ≤ v ∧ v ≤ 9223372036854775807 := by
  unfold numOf at h
  split at h
  · rename_i v' e
    cases h
    unfold Lib.parseIntB at e
    simp only at e
    split at e
    · cases e
    · split at e
      · cases e
      · cases e
      · split at e
        · cases e
        · split at e
          · cases e
          · rename_i h1 h2
            cases e
            split <;> (simp_all; try omega)
  · cases h
theorem take_head {c : UInt8} {r : List UInt8} {n : Nat} (h : 0 < n) : ∃ q, (c :: r).take n = c :: q := by
  cases n with
  | zero => omega
  | succ n => exact ⟨r.take n, rfl⟩
theorem one_good {l : List UInt8} {t : Tk} (h : one l = .ok t) : GoodK t.kind t.text t.num := by
  cases l with
  | nil => cases h
  | cons c r =>
    unfold one at h
    simp only at h
    split at h
    · rename_i hs
      cases h
      have hn : 0 < runN rn (c :: r) := by
        have : rn c.toNat = true := by simp only [sm, rn, decide_eq_true_eq] at hs ⊢; exact .inl hs
        simp only [runN, this, if_true]; omega
      obtain ⟨q, e⟩ := take_head (c := c) (r := r) hn
      simp only [e]
      refine ⟨fun z => ?_, fun _ => rfl, fun z => ?_, by omega, by omega, by split <;> omega⟩
      · split at z <;> omega
      · simp only [isMark, hs, Bool.not_true, Bool.false_and, Bool.or_false] at z
        rw [if_pos z]
        exact .inr rfl
    · split at h
      · rename_i hs
        cases h
        have hn : 0 < runN rn (c :: r) := by
          have : rn c.toNat = true := by simp only [gr, rn, decide_eq_true_eq] at hs ⊢; exact .inr (.inl hs)
          simp only [runN, this, if_true]; omega
        obtain ⟨q, e⟩ := take_head (c := c) (r := r) hn
        simp only [e]
        refine ⟨fun z => by omega, fun _ => rfl, fun z => ?_, by omega, by omega, by omega⟩
        simp only [isMark, hs, Bool.not_true, Bool.and_false, Bool.false_and, Bool.or_false] at z
        exfalso
        simp only [resv, Bool.or_eq_true, beq_iff_eq, List.cons.injEq] at z
        simp only [gr, decide_eq_true_eq] at hs
        rcases z with (((⟨rfl, _⟩ | ⟨rfl, _⟩) | ⟨rfl, _⟩) | ⟨rfl, _⟩) | ⟨rfl, _⟩ <;> exact absurd hs (by decide)
      · split at h
        · rename_i hs
          cases h
          obtain ⟨q, e⟩ := take_head (c := c) (r := r) (Nat.succ_pos (runN rn r))
          simp only [e]
          refine ⟨fun z => by omega, fun _ => rfl, fun z => ?_, by omega, by omega, by omega⟩
          simp only [isMark, hs.1, decide_true, Bool.not_true, Bool.and_false, Bool.or_false] at z
          exfalso
          have hs := hs.1
          simp only [resv, Bool.or_eq_true, beq_iff_eq, List.cons.injEq] at z
          rcases z with (((⟨rfl, _⟩ | ⟨rfl, _⟩) | ⟨rfl, _⟩) | ⟨rfl, _⟩) | ⟨rfl, _⟩ <;> exact absurd hs (by decide)
        · split at h
          · split at h
            · rename_i v hv
              cases h
              have := numOf_bounds hv
              exact ⟨fun _ => rfl, fun z => by simp at z, fun z => by simp [isMark, resv] at z, this.1, this.2, by simp⟩
            · cases h
          · split at h
            · cases h; exact ⟨fun z => by simp at z, fun z => by simp at z, fun _ => .inl rfl, by simp, by simp, by simp⟩
            · split at h
              · cases h; exact ⟨fun z => by simp at z, fun z => by simp at z, fun _ => .inl rfl, by simp, by simp, by simp⟩
              · cases h
def Good (l : List Tok) : Prop := ∀ t ∈ l, GoodK t.kind t.text t.num
theorem scanF_good : ∀ f l a ts, scanF f l a = .ok ts → Good ts
  | 0, _, _, _, h => by cases h; exact fun t ht => by cases ht
  | f + 1, l, a, ts, h => by
    by_cases hk : skipN false l < l.length
    · rcases hr : readT (l.drop (skipN false l)) with e | t
      · rw [scanF_err _ _ _ hk hr] at h; cases h
      · rw [scanF_ok _ _ _ hk hr] at h
        rcases hq : scanF f ((l.drop (skipN false l)).drop t.len) (a + skipN false l + t.len) with e | us
        · rw [hq] at h; cases h
        · rw [hq] at h
          cases h
          have ih := scanF_good f _ _ _ hq
          intro u hu
          rcases List.mem_append.1 hu with z | z
          · rw [List.mem_singleton] at z; subst z; exact one_good (readT_one hr).1
          · exact ih u z
    · rw [scanF_end _ _ _ hk] at h
      cases h
      exact fun t ht => by cases ht
theorem scan_good {l : List UInt8} {ts : List Tok} (h : scanAll l = .ok ts) : Good ts := by
  unfold scanAll at h
  split at h
  · cases h
  · exact scanF_good _ _ _ _ h
theorem Good.tail {t : Tok} {l : List Tok} (h : Good (t :: l)) : Good l := fun u hu => h u (List.mem_cons_of_mem _ hu)
theorem Good.head {t : Tok} {l : List Tok} (h : Good (t :: l)) : GoodK t.kind t.text t.num := h t (List.mem_cons_self ..)
/-- the first token's text says whether a sign or a word stands there -/
theorem Good.stands {t : Tok} {l : List Tok} (h : Good (t :: l)) {s : List UInt8} (hs : isMark s = true) : isS s (t :: l) = decide (t.text = s) := by
  unfold isS
  by_cases e : t.text = s
  · subst e
    rcases h.head.mark hs with z | z <;> simp [z]
  · simp [e]
/-! what is left of good tokens is good -/
theorem good_suffix {l r : List Tok} (h : Good l) (k : Nat) (e : r = l.drop k) : Good r := by
  subst e
  exact fun t ht => h t (List.mem_of_mem_drop ht)

end Go.Proofs.YtbajpejnnfacbaaGreatDoor

/- Package tree's parser in memory: what it holds, what stays as it was. -/
namespace Go.Proofs.YtbajpejnnfacbaaGreatDoor
open Go.RowKit
set_option linter.unusedVariables false

/-- nothing that was there has turned but the block b -/
abbrev Fr (b : Nat) (w w' : World) : Prop := w.grownBy w' (some b)
theorem Fr.refl (b : Nat) (w : World) : Fr b w w := ⟨rfl, rfl, rfl, Nat.le_refl _, fun _ _ _ => rfl⟩
theorem Fr.trans {b : Nat} {w w1 w2 : World} (h : Fr b w w1) (k : Fr b w1 w2) : Fr b w w2 :=
  ⟨k.os.trans h.os, k.tape.trans h.tape, k.output.trans h.output, Nat.le_trans h.size k.size, fun i hi hb => (k.block i (Nat.lt_of_lt_of_le hi h.size) hb).trans (h.block i hi hb)⟩
theorem Fr.grown {b : Nat} {w w1 w2 : World} {row : Option Nat} (h : Fr b w w1) (k : w1.grownBy w2 row) (hr : ∀ i, row = some i → w.heap.size ≤ i) : Fr b w w2 :=
  ⟨k.os.trans h.os, k.tape.trans h.tape, k.output.trans h.output, Nat.le_trans h.size k.size, fun i hi hb => (k.block i (Nat.lt_of_lt_of_le hi h.size) (fun e => by have := hr i e.symm; omega)).trans (h.block i hi hb)⟩
theorem Fr.of_below {b : Nat} {w w' : World} (h : Below w.heap.size w w') : Fr b w w' := ⟨h.os, h.tape, h.output, h.size, fun i hi _ => h.block i hi⟩
theorem Fr.below {b B : Nat} {w w' : World} (h : Fr b w w') (hb : B ≤ b) (hw : b < w.heap.size) : Below B w w' :=
  ⟨h.os, h.tape, h.output, h.size, fun k hk => h.block k (by omega) (fun e => by cases e; omega)⟩
theorem grown_alloc (w : World) (o : Obj) : w.grownBy (w.alloc o) none :=
  ⟨rfl, rfl, rfl, by simp, fun i hi _ => (((Below.refl w.heap.size w).alloc (Nat.le_refl _) o).block i hi)⟩
theorem grown_drew (w : World) : w.grownBy w.drew none := ⟨rfl, rfl, rfl, Nat.le_refl _, fun _ _ _ => rfl⟩
theorem Fr.alloc {b : Nat} {w w1 : World} (h : Fr b w w1) (o : Obj) : Fr b w (w1.alloc o) := h.grown (grown_alloc _ _) (fun i e => by cases e)
theorem Fr.drew {b : Nat} {w w1 : World} (h : Fr b w w1) : Fr b w w1.drew := h.grown (grown_drew _) (fun i e => by cases e)
theorem setCell_block (w : World) (a : Addr) (v : Value) (i : Nat) (h : i ≠ a.block) : (w.setCell a v).heap[i]? = w.heap[i]? := by
  simp only [World.setCell, Array.getElem?_modify]
  rw [if_neg (fun e => h e.symm)]
theorem Fr.set {b : Nat} {w w1 : World} (h : Fr b w w1) (j : Nat) (v : Value) : Fr b w (w1.setCell ⟨b, j, none⟩ v) :=
  h.trans ⟨rfl, rfl, rfl, by simp, fun i _ hb => setCell_block _ _ _ _ (fun e => hb (by rw [e]))⟩

theorem set_other {w : World} {a b : Addr} {v : Value} (h : a ≠ b) : (w.setCell a v).cell? b = w.cell? b := World.cell?_setCell_other _ _ _ _ h
theorem set_same {w : World} {a : Addr} {v u : Value} (h : w.cell? a = some u) : (w.setCell a v).cell? a = some v := World.cell?_setCell_same' w a v (by rw [h]; rfl)
theorem block_ne {a b : Nat} {i j : Nat} (h : a ≠ b) : (⟨a, i, none⟩ : Addr) ≠ ⟨b, j, none⟩ := fun q => h (congrArg Addr.block q)
theorem off_ne {a : Nat} {i j : Nat} (h : i ≠ j) : (⟨a, i, none⟩ : Addr) ≠ ⟨a, j, none⟩ := fun q => h (congrArg Addr.off q)
theorem cellsT_cons (t : Tok) (l : List Tok) : cellsT (t :: l) = tokC t ++ cellsT l := rfl
theorem Fr.put {b : Nat} {w w1 : World} (h : Fr b w w1) {m : Nat} (hm : w.heap.size ≤ m) (j : Nat) (v : Value) : Fr b w (w1.setCell ⟨m, j, none⟩ v) :=
  h.grown (row := some m) ⟨rfl, rfl, rfl, by simp, fun i _ hb => setCell_block _ _ _ _ (fun e => hb (by rw [e]))⟩ (fun i e => by cases e; exact hm)

/-! rows of a call's own -/
/-- blocks of a call's own -/
def new (w w' : World) : Nat → Prop := fun g => w.heap.size ≤ g ∧ g < w'.heap.size
theorem own_fr {w w' : World} {base size n b : Nat} {e : TypeId} {v : Value} {xs : List Value} (h : w.ownsRow base e size v n xs) (F : Fr b w w') (hb : b < base) : w'.ownsRow base e size v n xs :=
  h.kept F (by
    rcases hv : v.ownBlock with _ | k
    · exact .inl rfl
    · exact .inr (fun q => by cases q; have := (h.lt b hv).1; omega))
theorem own_alloc {w : World} {base size n : Nat} {e : TypeId} {v : Value} {xs : List Value} (h : w.ownsRow base e size v n xs) (o : Obj) : (w.alloc o).ownsRow base e size v n xs := h.alloc o
theorem Fr.row {b : Nat} {w w1 w2 : World} (h : Fr b w w1) {size m : Nat} {t : TypeId} {v : Value} {xs : List Value} (ho : w1.ownsRow w.heap.size t size v m xs) (k : w1.grownBy w2 v.ownBlock) : Fr b w w2 :=
  h.grown k (fun i hi => (ho.lt i hi).1)
theorem own_row {w w' : World} {m size n : Nat} {t : TypeId} {v : Value} {xs : List Value} (h : w'.ownsRow w.heap.size t size v n xs) (hn : n ≤ 1000000000) : IsRow w' (new w w') xs n v :=
  row_of_owns h (fun g hg => h.lt g hg) hn
theorem new_one {w : World} {v : Value} {t : TypeId} : ∀ j u, [v][j]? = some u → (w.alloc (.cells #[v] t)).cell? ((⟨w.heap.size, 0, none⟩ : Addr).add j) = some u := World.news_of_block (heap_alloc_new w _)

end Go.Proofs.YtbajpejnnfacbaaGreatDoor

/- The document's check: lists of names. -/
namespace Go.Proofs.YtbajpejnnfacbaaGreatDoor
open Go.RowKit
set_option linter.unusedVariables false
set_option linter.unusedSimpArgs false

theorem str_eqb (a b : List UInt8) : ((str a).toList == (str b).toList) = (a == b) := by
  rw [ByteArray.toList_eq, ByteArray.toList_eq, str_list, str_list]
theorem eqb_comm (a b : List UInt8) : (a == b) = (b == a) := by rw [Bool.eq_iff_iff, beq_iff_eq, beq_iff_eq]; exact eq_comm
theorem strC_get (ls : List Nm) (k : Nat) (h : k < ls.length) : (strC ls)[k]? = some (.string (str (ls[k]'h))) := by
  simp [strC, List.getElem?_eq_getElem h]
theorem drop_has {ls : List Nm} {k : Nat} (h : k < ls.length) (s : Nm) : (ls.drop k).contains s = (((str (ls[k]'h)).toList == (str s).toList) || (ls.drop (k + 1)).contains s) := by
  rw [List.drop_eq_getElem_cons h, List.contains_cons, str_eqb, eqb_comm]
end Go.Proofs.YtbajpejnnfacbaaGreatDoor

/- The document's check: doubles, the first data of a name, the fault. -/
namespace Go.Proofs.YtbajpejnnfacbaaGreatDoor
open Go.RowKit
set_option linter.unusedVariables false
set_option linter.unusedSimpArgs false

def twR (ahead : List Nm) : List Nm → Bool
  | [] => false
  | x :: r => ahead.contains x || twR (ahead ++ [x]) r
theorem has_snoc (l : List Nm) (x y : Nm) : (l ++ [x]).contains y = (l.contains y || (y == x)) := by
  rw [List.contains_eq_any_beq, List.any_append, ← List.contains_eq_any_beq]
  simp
theorem any_or (l : List Nm) (x : Nm) (f : Nm → Bool) : l.any (fun y => f y || (y == x)) = (l.any f || l.contains x) := by
  induction l with
  | nil => rfl
  | cons y r ih =>
    rw [List.any_cons, ih, List.any_cons, List.contains_cons, eqb_comm y x]
    cases f y <;> cases (x == y) <;> cases r.any f <;> cases r.contains x <;> rfl
theorem twR_twice : ∀ (l ahead : List Nm), twR ahead l = (l.any ahead.contains || twiceN l)
  | [], _ => rfl
  | x :: r, ahead => by
    rw [twR, twR_twice r, twiceN, List.any_cons]
    have e : r.any (ahead ++ [x]).contains = (r.any ahead.contains || r.contains x) := by
      rw [← any_or]
      congr 1
      funext y
      exact has_snoc ahead x y
    rw [e]
    cases ahead.contains x <;> cases r.any ahead.contains <;> cases r.contains x <;> cases twiceN r <;> rfl
theorem twR_nil (l : List Nm) : twR [] l = twiceN l := by
  rw [twR_twice]
  have : l.any ([] : List Nm).contains = false := by
    rw [List.any_eq_false]; intro x _; simp
  rw [this, Bool.false_or]
theorem take_row {w : World} {ok : Nat → Prop} {ls : List Nm} {ga : Option Addr} {cap k : Nat} (R : IsRow w ok (strC ls) ls.length (.slice ga ls.length cap)) (hk : k ≤ ls.length) : IsRow w ok (strC (ls.take k)) (ls.take k).length (.slice ga k cap) := by
  obtain ⟨ga', cap', e, hc, hx⟩ := R
  simp only [Value.slice.injEq] at e
  obtain ⟨rfl, _, rfl⟩ := e
  have e1 : (ls.take k).length = k := by rw [List.length_take]; omega
  rw [e1]
  refine ⟨ga, cap, rfl, ⟨by omega, by omega⟩, fun hn => ?_⟩
  obtain ⟨g, off, rfl, ho, h⟩ := hx (by omega)
  refine ⟨g, off, rfl, ho, fun j u hj => h j u ?_⟩
  have : strC (ls.take k) = (strC ls).take k := by simp [strC, List.map_take]
  rw [this, List.getElem?_take] at hj
  split at hj
  · exact hj
  · cases hj
end Go.Proofs.YtbajpejnnfacbaaGreatDoor

/- The document's check: its block, the fault, the first data of a name. -/
namespace Go.Proofs.YtbajpejnnfacbaaGreatDoor
open Go.RowKit
set_option linter.unusedVariables false
set_option linter.unusedSimpArgs false

abbrev ptr (b : Nat) : Value := .pointer (some ⟨b, 0, none⟩)
abbrev done : Ending := .returned (.tuple #[])
def atF : Flt → Int | none => 0 | some x => x.1
def erF : Flt → Int | none => 0 | some x => x.2
def arV (r : Option Int) : Value := match r with | none => .tuple #[.int .i64 0, .bool false] | some a => .tuple #[.int .i64 a, .bool true]
theorem datC_get (ds : List D) (k : Nat) (h : k < ds.length) : (datC ds)[k * 3]? = some (.string (str (ds[k]'h).name)) ∧ (datC ds)[k * 3 + 1]? = some (.int .i64 (ds[k]'h).arity) ∧ (datC ds)[k * 3 + 2]? = some (.int .i64 (ds[k]'h).at') := by
  induction ds generalizing k with
  | nil => simp at h
  | cons d r ih =>
    have e : datC (d :: r) = [.string (str d.name), .int .i64 d.arity, .int .i64 d.at'] ++ datC r := by simp [datC]
    rw [e]
    cases k with
    | zero => simp
    | succ k =>
      have := ih k (by simpa using h)
      have e3 : (k + 1) * 3 = k * 3 + 3 := by omega
      rw [e3]
      simpa using this
end Go.Proofs.YtbajpejnnfacbaaGreatDoor

/- The document's check: atoms. -/
namespace Go.Proofs.YtbajpejnnfacbaaGreatDoor
open Go.RowKit
set_option linter.unusedVariables false
set_option linter.unusedSimpArgs false

/-- any block but b -/
abbrev but (b : Nat) : Nat → Prop := fun g => g ≠ b
theorem keeps_fr {b : Nat} {w w' : World} (h : Fr b w w') : Keeps (but b) (but b) w w' := ⟨fun g off u hg hc => h.cell hc (fun e => hg (Option.some.inj e)), fun _ h => h⟩
theorem orF_some (x : Int × Int) (b : Flt) : orF (some x) b = some x := rfl
theorem orF_assoc (a b c : Flt) : orF (orF a b) c = orF a (orF b c) := by cases a <;> rfl
theorem orF_nil (a : Flt) : orF a none = a := by cases a <;> rfl
/-- a block's cells -/
def Bx (w : World) (m : Nat) (cs : Array Value) (t : TypeId) : Prop := w.heap[m]? = some (.cells cs t (0, 0))
theorem Bx.cell {w : World} {m : Nat} {cs : Array Value} {t : TypeId} (h : Bx w m cs t) (j : Nat) : w.cell? ⟨m, j, none⟩ = cs[j]? := Joins.cell_of_block h j
theorem Bx.lt {w : World} {m : Nat} {cs : Array Value} {t : TypeId} (h : Bx w m cs t) : m < w.heap.size := (Array.getElem?_eq_some_iff.1 h).1
theorem Bx.fr {w w' : World} {b m : Nat} {cs : Array Value} {t : TypeId} (h : Bx w m cs t) (k : Fr b w w') (hm : m ≠ b) : Bx w' m cs t := (k.block m h.lt (fun e => hm (Option.some.inj e))).trans h
theorem atmC_get (ts : List Atm) (k : Nat) (h : k < ts.length) : (atmC ts)[k * 2]? = some (.string (str (ts[k]'h).name)) ∧ (atmC ts)[k * 2 + 1]? = some (.int .i64 (ts[k]'h).num) := by
  induction ts generalizing k with
  | nil => simp at h
  | cons d r ih =>
    have e : atmC (d :: r) = [.string (str d.name), .int .i64 d.num] ++ atmC r := by simp [atmC]
    rw [e]
    cases k with
    | zero => simp
    | succ k =>
      have := ih k (by simpa using h)
      have e3 : (k + 1) * 2 = k * 2 + 2 := by omega
      rw [e3]
      simpa using this
end Go.Proofs.YtbajpejnnfacbaaGreatDoor
