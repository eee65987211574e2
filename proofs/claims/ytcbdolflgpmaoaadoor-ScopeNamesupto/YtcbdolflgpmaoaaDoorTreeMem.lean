/- Layer 6, made ready: trees in memory: what the cells of an expression, a bind, an alternative are; what keeps them: of no program. -/
import Derived.Test.YtcbdolflgpmaoaaDoorTree
import Derived.Test.YtcbdolflgpmaoaaDoorTok
import Derived.Laws.AppendOwn
import Derived.Below
namespace Go.Proofs.YtcbdolflgpmaoaaDoor
open Go.RowKit
set_option linter.unusedVariables false

def strC (l : List (List UInt8)) : List Value := l.map fun s => .string (str s)
def atmC (l : List Atm) : List Value := l.flatMap fun a => [.string (str a.name), .int .i64 a.num]
def datC (l : List D) : List Value := l.flatMap fun d => [.string (str d.name), .int .i64 d.arity, .int .i64 d.at']
/-- a slice of n items whose cells are those: its block is one of 'ok' -/
def IsRow (w : World) (ok : Nat → Prop) (xs : List Value) (n : Nat) (v : Value) : Prop :=
  ∃ ga cap, v = .slice ga n cap ∧ (n ≤ cap ∧ n ≤ 1000000000) ∧ (0 < n → ∃ g off, ga = some ⟨g, off, none⟩ ∧ ok g ∧ ∀ j u, xs[j]? = some u → w.cell? ⟨g, off + j, none⟩ = some u)
mutual
def isE (w : World) (ok : Nat → Prop) : E → List Value → Prop
  | .mk k a n m ts bs ks al, c => ∃ vt vb vk va xb xk xa, c = [.int .i64 k, .int .i64 a, .string (str n), .int .i64 m, vt, vb, vk, va] ∧ IsRow w ok (atmC ts) ts.length vt ∧
      IsRow w ok xb bs.length vb ∧ isBs w ok bs xb ∧ IsRow w ok xk ks.length vk ∧ isEs w ok ks xk ∧ IsRow w ok xa al.length va ∧ isAs w ok al xa
def isB (w : World) (ok : Nat → Prop) : B → List Value → Prop
  | .mk n a al x, c => ∃ va d, c = [.string (str n), .int .i64 a, va] ++ d ∧ IsRow w ok (strC al) al.length va ∧ isE w ok x d
def isA (w : World) (ok : Nat → Prop) : A → List Value → Prop
  | .mk k a n m vs x, c => ∃ vv d, c = [.int .i64 k, .int .i64 a, .string (str n), .int .i64 m, vv] ++ d ∧ IsRow w ok (strC vs) vs.length vv ∧ isE w ok x d
def isEs (w : World) (ok : Nat → Prop) : List E → List Value → Prop
  | [], c => c = []
  | x :: r, c => ∃ c1 c2, c = c1 ++ c2 ∧ isE w ok x c1 ∧ isEs w ok r c2
def isBs (w : World) (ok : Nat → Prop) : List B → List Value → Prop
  | [], c => c = []
  | x :: r, c => ∃ c1 c2, c = c1 ++ c2 ∧ isB w ok x c1 ∧ isBs w ok r c2
def isAs (w : World) (ok : Nat → Prop) : List A → List Value → Prop
  | [], c => c = []
  | x :: r, c => ∃ c1 c2, c = c1 ++ c2 ∧ isA w ok x c1 ∧ isAs w ok r c2
end

/-- from w to w' nothing has turned in the blocks of 'ok', and they are of 'ok'' -/
structure Keeps (ok ok' : Nat → Prop) (w w' : World) : Prop where
  cell : ∀ g off u, ok g → w.cell? ⟨g, off, none⟩ = some u → w'.cell? ⟨g, off, none⟩ = some u
  ok : ∀ g, ok g → ok' g
theorem IsRow.keeps {ok ok' : Nat → Prop} {w w' : World} {xs : List Value} {n : Nat} {v : Value} (hk : Keeps ok ok' w w') (h : IsRow w ok xs n v) : IsRow w' ok' xs n v := by
  obtain ⟨ga, cap, rfl, hc, h⟩ := h
  refine ⟨ga, cap, rfl, hc, fun hn => ?_⟩
  obtain ⟨g, off, rfl, ho, hx⟩ := h hn
  exact ⟨g, off, rfl, hk.ok g ho, fun j u hj => hk.cell g _ u ho (hx j u hj)⟩
mutual
theorem isE_keeps {ok ok' : Nat → Prop} {w w' : World} (hk : Keeps ok ok' w w') : ∀ (x : E) (c : List Value), isE w ok x c → isE w' ok' x c
  | .mk k a n m ts bs ks al, c, h => by
    simp only [isE] at h ⊢
    obtain ⟨vt, vb, vk, va, xb, xk, xa, rfl, h1, h2, h3, h4, h5, h6, h7⟩ := h
    exact ⟨vt, vb, vk, va, xb, xk, xa, rfl, h1.keeps hk, h2.keeps hk, isBs_keeps hk bs xb h3, h4.keeps hk, isEs_keeps hk ks xk h5, h6.keeps hk, isAs_keeps hk al xa h7⟩
theorem isB_keeps {ok ok' : Nat → Prop} {w w' : World} (hk : Keeps ok ok' w w') : ∀ (x : B) (c : List Value), isB w ok x c → isB w' ok' x c
  | .mk n a al x, c, h => by
    simp only [isB] at h ⊢
    obtain ⟨va, d, rfl, h1, h2⟩ := h
    exact ⟨va, d, rfl, h1.keeps hk, isE_keeps hk x d h2⟩
theorem isA_keeps {ok ok' : Nat → Prop} {w w' : World} (hk : Keeps ok ok' w w') : ∀ (x : A) (c : List Value), isA w ok x c → isA w' ok' x c
  | .mk k a n m vs x, c, h => by
    simp only [isA] at h ⊢
    obtain ⟨va, d, rfl, h1, h2⟩ := h
    exact ⟨va, d, rfl, h1.keeps hk, isE_keeps hk x d h2⟩
theorem isEs_keeps {ok ok' : Nat → Prop} {w w' : World} (hk : Keeps ok ok' w w') : ∀ (x : List E) (c : List Value), isEs w ok x c → isEs w' ok' x c
  | [], c, h => by simp only [isEs] at h ⊢; exact h
  | x :: r, c, h => by
    simp only [isEs] at h ⊢
    obtain ⟨c1, c2, rfl, h1, h2⟩ := h
    exact ⟨c1, c2, rfl, isE_keeps hk x c1 h1, isEs_keeps hk r c2 h2⟩
theorem isBs_keeps {ok ok' : Nat → Prop} {w w' : World} (hk : Keeps ok ok' w w') : ∀ (x : List B) (c : List Value), isBs w ok x c → isBs w' ok' x c
  | [], c, h => by simp only [isBs] at h ⊢; exact h
  | x :: r, c, h => by
    simp only [isBs] at h ⊢
    obtain ⟨c1, c2, rfl, h1, h2⟩ := h
    exact ⟨c1, c2, rfl, isB_keeps hk x c1 h1, isBs_keeps hk r c2 h2⟩
theorem isAs_keeps {ok ok' : Nat → Prop} {w w' : World} (hk : Keeps ok ok' w w') : ∀ (x : List A) (c : List Value), isAs w ok x c → isAs w' ok' x c
  | [], c, h => by simp only [isAs] at h ⊢; exact h
  | x :: r, c, h => by
    simp only [isAs] at h ⊢
    obtain ⟨c1, c2, rfl, h1, h2⟩ := h
    exact ⟨c1, c2, rfl, isA_keeps hk x c1 h1, isAs_keeps hk r c2 h2⟩
end

/-! ## One more behind a list -/
theorem isEs_snoc {w : World} {ok : Nat → Prop} : ∀ (l : List E) (x : E) (c d : List Value), isEs w ok l c → isE w ok x d → isEs w ok (l ++ [x]) (c ++ d)
  | [], x, c, d, h, h' => by simp only [isEs] at h; subst h; simp only [List.nil_append, isEs]; exact ⟨d, [], by simp, h', rfl⟩
  | y :: r, x, c, d, h, h' => by
    simp only [isEs] at h
    obtain ⟨c1, c2, rfl, h1, h2⟩ := h
    simp only [List.cons_append, isEs]
    exact ⟨c1, c2 ++ d, List.append_assoc _ _ _, h1, isEs_snoc r x c2 d h2 h'⟩
theorem isBs_snoc {w : World} {ok : Nat → Prop} : ∀ (l : List B) (x : B) (c d : List Value), isBs w ok l c → isB w ok x d → isBs w ok (l ++ [x]) (c ++ d)
  | [], x, c, d, h, h' => by simp only [isBs] at h; subst h; simp only [List.nil_append, isBs]; exact ⟨d, [], by simp, h', rfl⟩
  | y :: r, x, c, d, h, h' => by
    simp only [isBs] at h
    obtain ⟨c1, c2, rfl, h1, h2⟩ := h
    simp only [List.cons_append, isBs]
    exact ⟨c1, c2 ++ d, List.append_assoc _ _ _, h1, isBs_snoc r x c2 d h2 h'⟩
theorem isAs_snoc {w : World} {ok : Nat → Prop} : ∀ (l : List A) (x : A) (c d : List Value), isAs w ok l c → isA w ok x d → isAs w ok (l ++ [x]) (c ++ d)
  | [], x, c, d, h, h' => by simp only [isAs] at h; subst h; simp only [List.nil_append, isAs]; exact ⟨d, [], by simp, h', rfl⟩
  | y :: r, x, c, d, h, h' => by
    simp only [isAs] at h
    obtain ⟨c1, c2, rfl, h1, h2⟩ := h
    simp only [List.cons_append, isAs]
    exact ⟨c1, c2 ++ d, List.append_assoc _ _ _, h1, isAs_snoc r x c2 d h2 h'⟩

/-! ## How many cells -/
theorem isE_length {w : World} {ok : Nat → Prop} : ∀ (x : E) (c : List Value), isE w ok x c → c.length = 8
  | .mk k a n m ts bs ks al, c, h => by
    simp only [isE] at h
    obtain ⟨vt, vb, vk, va, xb, xk, xa, rfl, _⟩ := h
    rfl
theorem isB_length {w : World} {ok : Nat → Prop} : ∀ (x : B) (c : List Value), isB w ok x c → c.length = 11
  | .mk n a al x, c, h => by
    simp only [isB] at h
    obtain ⟨va, d, rfl, h1, h2⟩ := h
    simp [isE_length x d h2]
theorem isA_length {w : World} {ok : Nat → Prop} : ∀ (x : A) (c : List Value), isA w ok x c → c.length = 13
  | .mk k a n m vs x, c, h => by
    simp only [isA] at h
    obtain ⟨va, d, rfl, h1, h2⟩ := h
    simp [isE_length x d h2]
theorem isEs_length {w : World} {ok : Nat → Prop} : ∀ (l : List E) (c : List Value), isEs w ok l c → c.length = l.length * 8
  | [], c, h => by simp only [isEs] at h; subst h; rfl
  | x :: r, c, h => by
    simp only [isEs] at h
    obtain ⟨c1, c2, rfl, h1, h2⟩ := h
    have a := isE_length x c1 h1
    have b := isEs_length r c2 h2
    simp only [List.length_append, List.length_cons]
    omega
theorem isBs_length {w : World} {ok : Nat → Prop} : ∀ (l : List B) (c : List Value), isBs w ok l c → c.length = l.length * 11
  | [], c, h => by simp only [isBs] at h; subst h; rfl
  | x :: r, c, h => by
    simp only [isBs] at h
    obtain ⟨c1, c2, rfl, h1, h2⟩ := h
    have a := isB_length x c1 h1
    have b := isBs_length r c2 h2
    simp only [List.length_append, List.length_cons]
    omega
theorem isAs_length {w : World} {ok : Nat → Prop} : ∀ (l : List A) (c : List Value), isAs w ok l c → c.length = l.length * 13
  | [], c, h => by simp only [isAs] at h; subst h; rfl
  | x :: r, c, h => by
    simp only [isAs] at h
    obtain ⟨c1, c2, rfl, h1, h2⟩ := h
    have a := isA_length x c1 h1
    have b := isAs_length r c2 h2
    simp only [List.length_append, List.length_cons]
    omega
/-! ## The i-th of a list -/
theorem isEs_get {w : World} {ok : Nat → Prop} : ∀ (l : List E) (c : List Value), isEs w ok l c → ∀ i (h : i < l.length), ∃ d, isE w ok (l[i]'h) d ∧ ∀ j u, d[j]? = some u → c[i * 8 + j]? = some u
  | [], _, _, i, h => absurd h (Nat.not_lt_zero _)
  | x :: r, c, hc, i, h => by
    simp only [isEs] at hc
    obtain ⟨c1, c2, rfl, h1, h2⟩ := hc
    have z := isE_length x c1 h1
    cases i with
    | zero =>
      refine ⟨c1, h1, fun j u hj => ?_⟩
      have : j < c1.length := (List.getElem?_eq_some_iff.1 hj).1
      rw [Nat.zero_mul, Nat.zero_add, List.getElem?_append_left this]
      exact hj
    | succ i =>
      obtain ⟨d, a, b⟩ := isEs_get r c2 h2 i (by simpa using h)
      refine ⟨d, a, fun j u hj => ?_⟩
      rw [List.getElem?_append_right (by omega), z, show (i + 1) * 8 + j - 8 = i * 8 + j by omega]
      exact b j u hj
theorem isBs_get {w : World} {ok : Nat → Prop} : ∀ (l : List B) (c : List Value), isBs w ok l c → ∀ i (h : i < l.length), ∃ d, isB w ok (l[i]'h) d ∧ ∀ j u, d[j]? = some u → c[i * 11 + j]? = some u
  | [], _, _, i, h => absurd h (Nat.not_lt_zero _)
  | x :: r, c, hc, i, h => by
    simp only [isBs] at hc
    obtain ⟨c1, c2, rfl, h1, h2⟩ := hc
    have z := isB_length x c1 h1
    cases i with
    | zero =>
      refine ⟨c1, h1, fun j u hj => ?_⟩
      have : j < c1.length := (List.getElem?_eq_some_iff.1 hj).1
      rw [Nat.zero_mul, Nat.zero_add, List.getElem?_append_left this]
      exact hj
    | succ i =>
      obtain ⟨d, a, b⟩ := isBs_get r c2 h2 i (by simpa using h)
      refine ⟨d, a, fun j u hj => ?_⟩
      rw [List.getElem?_append_right (by omega), z, show (i + 1) * 11 + j - 11 = i * 11 + j by omega]
      exact b j u hj
theorem isAs_get {w : World} {ok : Nat → Prop} : ∀ (l : List A) (c : List Value), isAs w ok l c → ∀ i (h : i < l.length), ∃ d, isA w ok (l[i]'h) d ∧ ∀ j u, d[j]? = some u → c[i * 13 + j]? = some u
  | [], _, _, i, h => absurd h (Nat.not_lt_zero _)
  | x :: r, c, hc, i, h => by
    simp only [isAs] at hc
    obtain ⟨c1, c2, rfl, h1, h2⟩ := hc
    have z := isA_length x c1 h1
    cases i with
    | zero =>
      refine ⟨c1, h1, fun j u hj => ?_⟩
      have : j < c1.length := (List.getElem?_eq_some_iff.1 hj).1
      rw [Nat.zero_mul, Nat.zero_add, List.getElem?_append_left this]
      exact hj
    | succ i =>
      obtain ⟨d, a, b⟩ := isAs_get r c2 h2 i (by simpa using h)
      refine ⟨d, a, fun j u hj => ?_⟩
      rw [List.getElem?_append_right (by omega), z, show (i + 1) * 13 + j - 13 = i * 13 + j by omega]
      exact b j u hj

/-! ## What keeps -/
theorem keeps_below {ok ok' : Nat → Prop} {w w' : World} (h : Below w.heap.size w w') (ho : ∀ g, ok g → ok' g) : Keeps ok ok' w w' :=
  ⟨fun g off u _ hu => (World.cell?_of_block (h.block g (World.block_lt_of_cell? _ _ hu))).trans hu, ho⟩
theorem keeps_grown {ok ok' : Nat → Prop} {w w' : World} {row : Option Nat} (h : w.grownBy w' row) (hne : ∀ g, ok g → some g ≠ row) (ho : ∀ g, ok g → ok' g) : Keeps ok ok' w w' :=
  ⟨fun g off u hg hu => h.cell hu (hne g hg), ho⟩
/-- nothing below n has turned but the block b -/
structure But (b n : Nat) (w w' : World) : Prop where
  os : w'.os = w.os
  tape : w'.tape = w.tape
  output : w'.output = w.output
  size : w.heap.size ≤ w'.heap.size
  block : ∀ k, k < n → k ≠ b → w'.heap[k]? = w.heap[k]?
theorem But.refl (b n : Nat) (w : World) : But b n w w := ⟨rfl, rfl, rfl, Nat.le_refl _, fun _ _ _ => rfl⟩
theorem But.trans {b n m : Nat} {w w1 w2 : World} (h : But b n w w1) (h' : But b m w1 w2) (hm : n ≤ m) : But b n w w2 :=
  ⟨h'.os.trans h.os, h'.tape.trans h.tape, h'.output.trans h.output, Nat.le_trans h.size h'.size, fun k hk hb => (h'.block k (Nat.lt_of_lt_of_le hk hm) hb).trans (h.block k hk hb)⟩
theorem But.of_below {b n m : Nat} {w w' : World} (h : Below m w w') (hm : n ≤ m) : But b n w w' := ⟨h.os, h.tape, h.output, h.size, fun k hk _ => h.block k (Nat.lt_of_lt_of_le hk hm)⟩
theorem But.of_grown {b n : Nat} {w w' : World} {row : Option Nat} (h : w.grownBy w' row) (hn : n ≤ w.heap.size) (hr : ∀ k, row = some k → n ≤ k ∨ k = b) : But b n w w' :=
  ⟨h.os, h.tape, h.output, h.size, fun k hk hb => h.block k (Nat.lt_of_lt_of_le hk hn) (fun e => by rcases hr k e.symm with z | z; omega; exact hb z)⟩
theorem keeps_but {ok ok' : Nat → Prop} {b : Nat} {w w' : World} (h : But b w.heap.size w w') (hne : ∀ g, ok g → g ≠ b) (ho : ∀ g, ok g → ok' g) : Keeps ok ok' w w' :=
  ⟨fun g off u hg hu => (World.cell?_of_block (h.block g (World.block_lt_of_cell? _ _ hu) (hne g hg))).trans hu, ho⟩
theorem row_of_owns {w : World} {base size n : Nat} {e : TypeId} {v : Value} {xs : List Value} {ok : Nat → Prop} (h : w.ownsRow base e size v n xs) (ho : ∀ g, v.ownBlock = some g → ok g) (hs : n ≤ 1000000000) : IsRow w ok xs n v := by
  rcases h.2 with ⟨rfl, h0⟩ | ⟨g, cap, cur, rfl, hb, hg, X⟩
  · subst h0
    exact ⟨none, 0, rfl, ⟨Nat.le_refl _, hs⟩, fun z => absurd z (Nat.lt_irrefl 0)⟩
  · refine ⟨_, cap, rfl, ⟨X.1, hs⟩, fun _ => ⟨g, 0, rfl, ho g rfl, fun j u hj => ?_⟩⟩
    have := h.cells (g := g) rfl j u hj
    simp only [Addr.add, Nat.zero_add] at this ⊢
    split at this
    · rename_i z; subst z; exact this
    · exact this

end Go.Proofs.YtcbdolflgpmaoaaDoor
