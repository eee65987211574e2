/- Tokens in memory, whatever their fields. -/
import Derived.Test.YtcbdolflgpmaoaaDoorTok
import Derived.Test.YtcbdolflgpmaoaaDoorBack
import Derived.Test.YtcbdolflgpmaoaaDoorPv
import Derived.Test.YtcbdolflgpmaoaaDoorTreeMem
import Derived.Test.YtcbdolflgpmaoaaDoorShowB
import Derived.Laws.OwnMore
import Derived.WalkLawsBesides
import Derived.Deep.AppendLies
import Derived.OwnWalk
import Derived.Test.YtcbdolflgpmaoaaDoorRdr
import Derived.Deep.RegionLaw
import Derived.Test.YtcbdolflgpmaoaaDoorScan
import Derived.Deep.RegionHeld3
namespace Go.Proofs.YtcbdolflgpmaoaaDoor
open Go.RowKit
set_option linter.unusedVariables false

/-- Tokens that came in lie in memory from a place on; their numbers are of 64 bits, their texts not too long for a machine. -/
def LiesA (w : World) (g off : Nat) (ts : List ATok) : Prop := ∀ (i : Nat) (h : i < ts.length),
  w.cell? ⟨g, off + i * 4, none⟩ = some (.int .i64 (ts[i]'h).kind) ∧ w.cell? ⟨g, off + i * 4 + 1, none⟩ = some (.string (str (ts[i]'h).text)) ∧
  w.cell? ⟨g, off + i * 4 + 2, none⟩ = some (.int .i64 (ts[i]'h).num) ∧ w.cell? ⟨g, off + i * 4 + 3, none⟩ = some (.int .i64 (ts[i]'h).at')
def Fit (t : ATok) : Prop := In64 t.kind ∧ In64 t.num ∧ t.text.length ≤ 140737488351232
/-- What the walk is told of a slice of tokens that came in. -/
def IsToks (w : World) (a : Option Addr) (ts : List ATok) : Prop := (0 < ts.length → ∃ g off, a = some ⟨g, off, none⟩ ∧ LiesA w g off ts) ∧ ∀ t ∈ ts, Fit t
theorem LiesA.later {w w' : World} {g off : Nat} {ts : List ATok} (h : LiesA w g off ts) (hb : Below w.heap.size w w') : LiesA w' g off ts := fun i hi => by
  obtain ⟨a, b, c, d⟩ := h i hi
  exact ⟨(hb.cell (World.block_lt_of_cell? _ _ a)).trans a, (hb.cell (World.block_lt_of_cell? _ _ b)).trans b, (hb.cell (World.block_lt_of_cell? _ _ c)).trans c, (hb.cell (World.block_lt_of_cell? _ _ d)).trans d⟩
theorem IsToks.later {w w' : World} {a : Option Addr} {ts : List ATok} (h : IsToks w a ts) (hb : Below w.heap.size w w') : IsToks w' a ts :=
  ⟨fun q => by obtain ⟨g, off, e, l⟩ := h.1 q; exact ⟨g, off, e, l.later hb⟩, h.2⟩


end Go.Proofs.YtcbdolflgpmaoaaDoor


/- Package show's printer in memory: what it holds, what stays as it was. -/
namespace Go.Proofs.YtcbdolflgpmaoaaDoor
open Go.RowKit
set_option linter.unusedVariables false

def tokA (t : ATok) : List Value := [.int .i64 t.kind, .string (str t.text), .int .i64 t.num, .int .i64 t.at']
def cellsA (ts : List ATok) : List Value := ts.flatMap tokA
theorem cellsA_snoc (ts : List ATok) (t : ATok) : cellsA (ts ++ [t]) = cellsA ts ++ tokA t := by simp [cellsA]
def endC (es : List Nat) : List Value := es.map fun (n : Nat) => .int .i64 (n : Int)
theorem endC_snoc (es : List Nat) (n : Nat) : endC (es ++ [n]) = endC es ++ [.int .i64 (n : Int)] := by simp [endC]

theorem z_grown_set (w : World) (b j : Nat) (v : Value) : w.grownBy (w.setCell ⟨b, j, none⟩ v) (some b) :=
  ⟨rfl, rfl, rfl, by simp, fun i _ hb => setCell_block _ _ _ _ (fun e => hb (by rw [e]))⟩
/-- a block's cells -/
def Blk (w : World) (m : Nat) (cs : Array Value) (t : TypeId) : Prop := w.heap[m]? = some (.cells cs t (0, 0))
theorem Blk.lt {w : World} {m : Nat} {cs : Array Value} {t : TypeId} (h : Blk w m cs t) : m < w.heap.size := (Array.getElem?_eq_some_iff.1 h).1
theorem Blk.kept {w w' : World} {m : Nat} {cs : Array Value} {t : TypeId} {row : Option Nat} (h : Blk w m cs t) (k : w.grownBy w' row) (hr : row ≠ some m) : Blk w' m cs t :=
  (k.block m h.lt (fun e => hr e.symm)).trans h
theorem Blk.alloc {w : World} {m : Nat} {cs : Array Value} {t : TypeId} (h : Blk w m cs t) (o : Obj) : Blk (w.alloc o) m cs t := h.kept (grown_alloc _ _) (by simp)
theorem Blk.drew {w : World} {m : Nat} {cs : Array Value} {t : TypeId} (h : Blk w m cs t) : Blk w.drew m cs t := h.kept (grown_drew _) (by simp)
theorem Blk.fresh (w : World) (cs : Array Value) (t : TypeId) : Blk (w.alloc (.cells cs t)) w.heap.size cs t := heap_alloc_new w _
theorem Blk.cell {w : World} {m : Nat} {cs : Array Value} {t : TypeId} (h : Blk w m cs t) (j : Nat) : w.cell? ⟨m, j, none⟩ = cs[j]? := by
  rw [Joins.cell_of_block h]
theorem Blk.z {w : World} {m : Nat} {cs : Array Value} {t : TypeId} (h : Blk w m cs t) (j : Nat) : w.frozen? ⟨m, j, none⟩ = false := Joins.unfrozen_of_block h j

/-- what a call of the printer leaves as it was: what lies below its block b; and above it all but the rows of tokens and of places -/
structure Fp (b : Nat) (w w' : World) : Prop where
  os : w'.os = w.os
  tape : w'.tape = w.tape
  output : w'.output = w.output
  size : w.heap.size ≤ w'.heap.size
  low : ∀ k, k < b → k < w.heap.size → w'.heap[k]? = w.heap[k]?
  oth : ∀ k cs t, Blk w k cs t → b < k → t ≠ 58 → t ≠ 3 → Blk w' k cs t
theorem Fp.refl (b : Nat) (w : World) : Fp b w w := ⟨rfl, rfl, rfl, Nat.le_refl _, fun _ _ _ => rfl, fun _ _ _ h _ _ _ => h⟩
theorem Fp.trans {b : Nat} {w w1 w2 : World} (h : Fp b w w1) (k : Fp b w1 w2) : Fp b w w2 :=
  ⟨k.os.trans h.os, k.tape.trans h.tape, k.output.trans h.output, Nat.le_trans h.size k.size, fun i hi hl => (k.low i hi (Nat.lt_of_lt_of_le hl h.size)).trans (h.low i hi hl), fun i cs t a b c d => k.oth i cs t (h.oth i cs t a b c d) b c d⟩
theorem Fp.of_grown {b : Nat} {w w1 w2 : World} {row : Option Nat} (h : Fp b w w1) (k : w1.grownBy w2 row) (hr : ∀ i, row = some i → i = b ∨ (b < i ∧ ∀ cs t, Blk w1 i cs t → t = 58 ∨ t = 3)) : Fp b w w2 :=
  h.trans ⟨k.os, k.tape, k.output, k.size, fun i hi hl => k.block i hl (fun e => by rcases hr i e.symm with z | z <;> omega), fun i cs t a hb c d => a.kept k (fun e => by
    rcases hr i e with z | z
    · omega
    · rcases z.2 cs t a with q | q
      · exact c q
      · exact d q)⟩
theorem Fp.alloc {b : Nat} {w w1 : World} (h : Fp b w w1) (o : Obj) : Fp b w (w1.alloc o) := h.of_grown (grown_alloc _ _) (fun i e => by cases e)
theorem Fp.drew {b : Nat} {w w1 : World} (h : Fp b w w1) : Fp b w w1.drew := h.of_grown (grown_drew _) (fun i e => by cases e)
theorem Fp.set {b : Nat} {w w1 : World} (h : Fp b w w1) (j : Nat) (v : Value) : Fp b w (w1.setCell ⟨b, j, none⟩ v) := h.of_grown (z_grown_set _ _ _ _) (fun i e => by cases e; exact .inl rfl)
theorem Fp.below {b : Nat} {w w1 w2 : World} (h : Fp b w w1) (k : Below w1.heap.size w1 w2) : Fp b w w2 :=
  h.of_grown (row := none) ⟨k.os, k.tape, k.output, k.size, fun i hi _ => k.block i hi⟩ (fun i e => by cases e)
theorem own_type {w : World} {base size n : Nat} {e : TypeId} {v : Value} {xs : List Value} (h : w.ownsRow base e size v n xs) {i : Nat} (hi : v.ownBlock = some i) : base ≤ i ∧ ∀ cs t, Blk w i cs t → t = e := by
  rcases h.2 with ⟨rfl, _⟩ | ⟨g, cap, cur, rfl, hb, hg, _⟩
  · cases hi
  · simp only [Value.ownBlock, Option.some.injEq] at hi
    subst hi
    refine ⟨hb, fun cs t ht => ?_⟩
    have : some (Obj.cells cs t (0, 0)) = some (.cells cur e (0, 0)) := by rw [← ht, ← hg]
    simp only [Option.some.injEq, Obj.cells.injEq] at this
    exact this.2.1
theorem Fp.row {b : Nat} {w w1 w2 : World} (h : Fp b w w1) {size m : Nat} {t : TypeId} {v : Value} {xs : List Value} (ho : w1.ownsRow (b + 1) t size v m xs) (ht : t = 58 ∨ t = 3) (k : w1.grownBy w2 v.ownBlock) : Fp b w w2 :=
  h.of_grown k (fun i hi => .inr ⟨by have := (own_type ho hi).1; omega, fun cs u hu => by rw [(own_type ho hi).2 cs u hu]; exact ht⟩)
/-- a row of another kind is not touched -/
theorem own_apart {w w' : World} {base size size' n n' : Nat} {e e' : TypeId} {v v' : Value} {xs xs' : List Value} (h : w.ownsRow base e size v n xs) (h' : w.ownsRow base e' size' v' n' xs') (he : e ≠ e') (k : w.grownBy w' v'.ownBlock) : w'.ownsRow base e size v n xs :=
  h.kept k (by
    rcases hv : v.ownBlock with _ | i
    · exact .inl rfl
    · refine .inr (fun q => ?_)
      rcases h.2 with ⟨rfl, _⟩ | ⟨g, cap, cur, rfl, hb, hg, _⟩
      · cases hv
      · simp only [Value.ownBlock, Option.some.injEq] at hv
        subst hv
        exact he ((own_type h' q.symm).2 cur e hg))

section
variable {w w' : World} {b : Nat} {ts : List ATok} {es : List Nat} {e : Int}
end
theorem Fp.low' {b : Nat} {w w' : World} (h : Fp b w w') (hb : b ≤ w.heap.size) : Below b w w' := ⟨h.os, h.tape, h.output, h.size, fun k hk => h.low k hk (by omega)⟩
theorem Fp.keeps {b : Nat} {w w' : World} (h : Fp b w w') : Keeps (fun g => g < b) (fun g => g < b) w w' :=
  ⟨fun g off u hg hu => (World.cell?_of_block (h.low g hg (World.block_lt_of_cell? _ _ hu))).trans hu, fun g hg => hg⟩

/-- how what is told turns tokens and fault -/
def Aft (ts : List ATok) (e : Int) (o : OT) (ts' : List ATok) (e' : Int) : Prop :=
  (e ≠ 0 → e' = e) ∧ (e = 0 → match o with
    | .ok l => e' = 0 ∧ ts' = ts ++ l
    | .error c => e' = c ∧ c ≠ 0)
theorem Aft.seq {ts ts1 ts2 : List ATok} {e e1 e2 : Int} {a b : OT} (h : Aft ts e a ts1 e1) (k : Aft ts1 e1 b ts2 e2) : Aft ts e (seqO a b) ts2 e2 := by
  refine ⟨fun he => (k.1 (by rw [h.1 he]; exact he)).trans (h.1 he), fun he => ?_⟩
  have h2 := h.2 he
  rcases a with c | x
  · simp only at h2
    simp only [seqO]
    exact ⟨(k.1 (by rw [h2.1]; exact h2.2)).trans h2.1, h2.2⟩
  · simp only at h2
    obtain ⟨rfl, rfl⟩ := h2
    have k2 := k.2 rfl
    rcases b with c | y
    · exact k2
    · simp only at k2 ⊢
      simp only [seqO]
      exact ⟨k2.1, by rw [k2.2, List.append_assoc]⟩
theorem Aft.ok (ts : List ATok) (e : Int) (l : List ATok) : Aft ts e (.ok l) (ts ++ l) e := ⟨fun _ => rfl, fun he => ⟨he, rfl⟩⟩
theorem Aft.nil (ts : List ATok) (e : Int) : Aft ts e (.ok []) ts e := ⟨fun _ => rfl, fun he => ⟨he, by simp⟩⟩
end Go.Proofs.YtcbdolflgpmaoaaDoor


/- Package show's printer: what puts one token; the first fault. -/
namespace Go.Proofs.YtcbdolflgpmaoaaDoor
open Go.RowKit
set_option linter.unusedVariables false
set_option linter.unusedSimpArgs false

theorem info71 : (Tryd.prog.info? 70).map (fun i => (i.zero, i.size, i.bytes)) = some (some (.agg #[.int .i64 0, .string ⟨#[]⟩, .int .i64 0, .int .i64 0]), 4, 40) := by kernel_rfl
theorem own_drew {w : World} {base size n : Nat} {e : TypeId} {v : Value} {xs : List Value} (h : w.ownsRow base e size v n xs) : w.drew.ownsRow base e size v n xs := h.kept (grown_drew w) (by cases v.ownBlock <;> simp)
theorem news1 (w : World) (o : Obj) (cs : Array Value) (t : TypeId) : ∀ j x, cs.toList[j]? = some x → ((w.alloc o).alloc (.cells cs t)).cell? ((⟨w.heap.size + 1, 0, none⟩ : Addr).add j) = some x := by
  have h := heap_alloc_new (w.alloc o) (.cells cs t)
  rw [show (w.alloc o).heap.size = w.heap.size + 1 by simp] at h
  exact World.news_of_block h
theorem bal {wz w' : World} (h : Below wz.heap.size wz w') (o : Obj) : Below wz.heap.size wz (w'.alloc o) := h.alloc h.size o
theorem below_here {w W W1 : World} {row : Option Nat} (h : Below w.heap.size w W) (hg : W.grownBy W1 row) : Below w.heap.size w W := h
theorem own_here {W W1 : World} {base size n : Nat} {e : TypeId} {v : Value} {xs : List Value} (h : W.ownsRow base e size v n xs) (hg : W.grownBy W1 v.ownBlock) : W.ownsRow base e size v n xs := h
end Go.Proofs.YtcbdolflgpmaoaaDoor


/- Package show's printer: signs, words, numbers, names; the first fault. -/
namespace Go.Proofs.YtcbdolflgpmaoaaDoor
open Go.RowKit
set_option linter.unusedVariables false
set_option linter.unusedSimpArgs false

theorem seqO_assoc (a b c : OT) : seqO (seqO a b) c = seqO a (seqO b c) := by
  rcases a with e | x
  · rfl
  · rcases b with e | y
    · rfl
    · rcases c with e | z
      · rfl
      · simp [seqO]
theorem seqO_nil (a : OT) : seqO a (.ok []) = a := by
  rcases a with e | x
  · rfl
  · simp [seqO]
theorem nil_seqO (a : OT) : seqO (.ok []) a = a := by
  rcases a with e | x
  · rfl
  · simp [seqO]
theorem oL_snoc {α : Type} (f : α → OT) : ∀ (l : List α) (x : α), oL f (l ++ [x]) = seqO (oL f l) (f x)
  | [], x => by simp [oL, seqO_nil, nil_seqO]
  | y :: l, x => by
    simp only [List.cons_append, oL, oL_snoc f l x, seqO_assoc]
theorem oNames_L : ∀ l, oNames l = oL (oName 1) l
  | [] => rfl
  | s :: r => by simp only [oNames, oL, oNames_L r]
theorem oAtoms_L : ∀ l, oAtoms l = oL oAtom l
  | [] => rfl
  | s :: r => by simp only [oAtoms, oL, oAtoms_L r]
theorem oL_take {α : Type} (f : α → OT) (l : List α) (i : Nat) (h : i < l.length) : oL f (l.take (i + 1)) = seqO (oL f (l.take i)) (f (l[i]'h)) := by
  rw [List.take_succ_eq_append_getElem h, oL_snoc]

section
variable {w : World} {b : Nat} {ts : List ATok} {es : List Nat} {e : Int}
theorem fit_sg {k : Int} {s : List UInt8} (hk : In64 k) (hs : s.length ≤ 1000000000) : Fit ⟨k, s, 0, 0⟩ := ⟨hk, ⟨by simp, by simp⟩, by simp only; omega⟩
theorem fit_nu {n : Int} (hn : In64 n) : Fit (nuT n) := ⟨⟨by simp, by simp⟩, hn, by simp⟩

end

end Go.Proofs.YtcbdolflgpmaoaaDoor


/- Package show's printer: names, calls; how much a tree weighs. -/
namespace Go.Proofs.YtcbdolflgpmaoaaDoor
open Go.RowKit
set_option linter.unusedVariables false
set_option linter.unusedSimpArgs false

/-! how much a tree weighs: at least as much as it has tokens, and as each name has letters; numbers of 64 bits -/
theorem wtN_get : ∀ (l : List (List UInt8)) (i : Nat) (h : i < l.length), (l[i]'h).length ≤ wtN l
  | [], i, h => absurd h (Nat.not_lt_zero _)
  | s :: r, 0, h => by simp only [wtN, List.getElem_cons_zero]; omega
  | s :: r, i + 1, h => by have := wtN_get r i (by simpa using h); simp only [wtN, List.getElem_cons_succ]; omega
theorem wtT_len : ∀ l, l.length ≤ wtT l
  | [] => Nat.le_refl _
  | s :: r => by have := wtT_len r; simp only [wtT, List.length_cons]; omega
theorem wtT_get : ∀ (l : List Atm) (i : Nat) (h : i < l.length), (l[i]'h).name.length ≤ wtT l
  | [], i, h => absurd h (Nat.not_lt_zero _)
  | s :: r, 0, h => by simp only [wtT, List.getElem_cons_zero]; omega
  | s :: r, i + 1, h => by have := wtT_get r i (by simpa using h); simp only [wtT, List.getElem_cons_succ]; omega
theorem wtBs_take : ∀ (l : List B) (i : Nat) (h : i < l.length), wtBs (l.take (i + 1)) = wtBs (l.take i) + wtB (l[i]'h)
  | [], i, h => absurd h (Nat.not_lt_zero _)
  | s :: r, 0, h => by simp [wtBs]
  | s :: r, i + 1, h => by have := wtBs_take r i (by simpa using h); simp only [List.take_succ_cons, wtBs, List.getElem_cons_succ, this]; omega
theorem wtBs_le : ∀ (l : List B) (i : Nat), wtBs (l.take i) ≤ wtBs l
  | [], i => by simp [wtBs]
  | s :: r, 0 => by simp [wtBs]
  | s :: r, i + 1 => by have := wtBs_le r i; simp only [List.take_succ_cons, wtBs]; omega
theorem wtAs_take : ∀ (l : List A) (i : Nat) (h : i < l.length), wtAs (l.take (i + 1)) = wtAs (l.take i) + wtA (l[i]'h)
  | [], i, h => absurd h (Nat.not_lt_zero _)
  | s :: r, 0, h => by simp [wtAs]
  | s :: r, i + 1, h => by have := wtAs_take r i (by simpa using h); simp only [List.take_succ_cons, wtAs, List.getElem_cons_succ, this]; omega
theorem wtAs_le : ∀ (l : List A) (i : Nat), wtAs (l.take i) ≤ wtAs l
  | [], i => by simp [wtAs]
  | s :: r, 0 => by simp [wtAs]
  | s :: r, i + 1 => by have := wtAs_le r i; simp only [List.take_succ_cons, wtAs]; omega
theorem wtDs_take : ∀ (l : List D) (i : Nat) (h : i < l.length), wtDs (l.take (i + 1)) = wtDs (l.take i) + wtD (l[i]'h)
  | [], i, h => absurd h (Nat.not_lt_zero _)
  | s :: r, 0, h => by simp [wtDs]
  | s :: r, i + 1, h => by have := wtDs_take r i (by simpa using h); simp only [List.take_succ_cons, wtDs, List.getElem_cons_succ, this]; omega
theorem wtDs_le : ∀ (l : List D) (i : Nat), wtDs (l.take i) ≤ wtDs l
  | [], i => by simp [wtDs]
  | s :: r, 0 => by simp [wtDs]
  | s :: r, i + 1 => by have := wtDs_le r i; simp only [List.take_succ_cons, wtDs]; omega
theorem finBs_get : ∀ (l : List B), finBs l → ∀ (i : Nat) (h : i < l.length), finB (l[i]'h)
  | [], _, i, h => absurd h (Nat.not_lt_zero _)
  | s :: r, f, 0, h => by simp only [finBs] at f; exact f.1
  | s :: r, f, i + 1, h => by simp only [finBs] at f; exact finBs_get r f.2 i (by simpa using h)
theorem finAs_get : ∀ (l : List A), finAs l → ∀ (i : Nat) (h : i < l.length), finA (l[i]'h)
  | [], _, i, h => absurd h (Nat.not_lt_zero _)
  | s :: r, f, 0, h => by simp only [finAs] at f; exact f.1
  | s :: r, f, i + 1, h => by simp only [finAs] at f; exact finAs_get r f.2 i (by simpa using h)

theorem atm_at {w : World} {ts : List Atm} {g off : Nat} (hx : ∀ j u, (atmC ts)[j]? = some u → w.cell? ⟨g, off + j, none⟩ = some u) (i : Nat) (h : i < ts.length) :
    w.cell? ⟨g, off + i * 2, none⟩ = some (.string (str (ts[i]'h).name)) ∧ w.cell? ⟨g, off + i * 2 + 1, none⟩ = some (.int .i64 (ts[i]'h).num) := by
  have G : ∀ (l : List Atm) (i : Nat) (h : i < l.length), (atmC l)[i * 2]? = some (.string (str (l[i]'h).name)) ∧ (atmC l)[i * 2 + 1]? = some (.int .i64 (l[i]'h).num) := by
    intro l
    induction l with
    | nil => intro i h; exact absurd h (Nat.not_lt_zero _)
    | cons a r ih =>
      intro i h
      have e : atmC (a :: r) = .string (str a.name) :: .int .i64 a.num :: atmC r := by simp [atmC]
      cases i with
      | zero => rw [e]; exact ⟨rfl, rfl⟩
      | succ i =>
        have := ih i (by simpa using h)
        rw [e, show (i + 1) * 2 = i * 2 + 1 + 1 by omega]
        simp only [List.getElem?_cons_succ, List.getElem_cons_succ]
        exact this
  obtain ⟨a, b⟩ := G ts i h
  exact ⟨hx _ _ a, by rw [Nat.add_assoc]; exact hx _ _ b⟩
theorem empty_str {s : List UInt8} : ((str s).toList == []) = decide (s = []) := by
  rw [ByteArray.toList_eq, str_list]
  by_cases h : s = [] <;> simp [h]

end Go.Proofs.YtcbdolflgpmaoaaDoor


/- Package show's printer: programs. -/
namespace Go.Proofs.YtcbdolflgpmaoaaDoor
open Go.RowKit
set_option linter.unusedVariables false
set_option linter.unusedSimpArgs false

/-- the places behind each of some rows of tokens -/
def endsOf : Nat → List (List ATok) → List Nat
  | _, [] => []
  | n, x :: r => (n + x.length) :: endsOf (n + x.length) r
theorem endsOf_snoc : ∀ (L : List (List ATok)) (x : List ATok) (n : Nat), endsOf n (L ++ [x]) = endsOf n L ++ [n + L.flatten.length + x.length]
  | [], x, n => by simp [endsOf]
  | y :: L, x, n => by
    simp only [List.cons_append, endsOf, endsOf_snoc L x, List.flatten_cons, List.length_append]
    rw [show n + y.length + L.flatten.length + x.length = n + (y.length + L.flatten.length) + x.length by omega]
def oneL : OT → Except Int (List (List ATok))
  | .ok y => .ok [y]
  | .error e => .error e
def seqL (a b : Except Int (List (List ATok))) : Except Int (List (List ATok)) :=
  match a with
  | .ok x => (match b with
    | .ok y => .ok (x ++ y)
    | .error e => .error e)
  | .error e => .error e
theorem linesO_seq (p : Pg) : linesO p = seqL (oLs oData p.datas) (oLs (oB (oE 60)) p.binds) := by
  unfold linesO seqL
  rcases oLs oData p.datas with e | x
  · rfl
  · rcases oLs (oB (oE 60)) p.binds with e | y <;> rfl
theorem seqL_nil (a : Except Int (List (List ATok))) : seqL a (.ok []) = a := by
  rcases a with e | x <;> simp [seqL]
theorem nil_seqL (a : Except Int (List (List ATok))) : seqL (.ok []) a = a := by
  rcases a with e | x <;> simp [seqL]
theorem oLs_snoc {α : Type} (f : α → OT) : ∀ (l : List α) (x : α), oLs f (l ++ [x]) = seqL (oLs f l) (oneL (f x))
  | [], x => by
    simp only [List.nil_append, oLs]
    rcases f x with e | y <;> rfl
  | y :: l, x => by
    simp only [List.cons_append, oLs]
    rw [oLs_snoc f l x]
    rcases f y with e | z
    · rfl
    · rcases oLs f l with e | u
      · rfl
      · rcases f x with e | v <;> rfl
theorem oLs_take {α : Type} (f : α → OT) (l : List α) (i : Nat) (h : i < l.length) : oLs f (l.take (i + 1)) = seqL (oLs f (l.take i)) (oneL (f (l[i]'h))) := by
  rw [List.take_succ_eq_append_getElem h, oLs_snoc]
theorem seqL_assoc (a b c : Except Int (List (List ATok))) : seqL (seqL a b) c = seqL a (seqL b c) := by
  rcases a with e | x
  · rfl
  · rcases b with e | y
    · rfl
    · rcases c with e | z
      · rfl
      · simp [seqL]
/-- what stands in the printer behind some rows -/
def LAft (o : Except Int (List (List ATok))) (ts : List ATok) (es : List Nat) (e : Int) : Prop :=
  match o with
  | .ok L => e = 0 ∧ ts = L.flatten ∧ es = endsOf 0 L
  | .error c => e = c ∧ c ≠ 0
theorem LAft.step {o : Except Int (List (List ATok))} {ts ts' : List ATok} {es : List Nat} {e e' : Int} {x : OT} (h : LAft o ts es e) (k : Aft ts e x ts' e') :
    LAft (seqL o (oneL (x))) ts' (es ++ [ts'.length]) e' := by
  rcases o with c | L
  · obtain ⟨rfl, hc⟩ := h
    exact ⟨k.1 hc, hc⟩
  · obtain ⟨rfl, rfl, rfl⟩ := h
    have k2 := k.2 rfl
    rcases x with c | l
    · exact k2
    · simp only at k2
      obtain ⟨rfl, rfl⟩ := k2
      refine ⟨rfl, by simp, ?_⟩
      rw [endsOf_snoc, List.length_append, Nat.zero_add]
theorem own_form {W : World} {base size m : Nat} {e : TypeId} {v : Value} {xs : List Value} (h : W.ownsRow base e size v m xs) : ∃ ga cap, v = .slice ga m cap := by
  rcases h.2 with ⟨rfl, h0⟩ | ⟨g, cap, cur, rfl, _⟩
  · exact ⟨none, 0, by rw [h0]⟩
  · exact ⟨_, _, rfl⟩
theorem info3 : (Tryd.prog.info? 3).map (fun i => (i.zero, i.size, i.bytes)) = some (some (.int .i64 0), 1, 8) := by kernel_rfl
theorem wtDs_len : ∀ l : List D, l.length ≤ wtDs l
  | [] => Nat.le_refl _
  | d :: r => by have := wtDs_len r; simp only [wtDs, wtD, List.length_cons]; omega
theorem wtBs_len : ∀ l : List B, l.length ≤ wtBs l
  | [] => Nat.le_refl _
  | .mk n a az x :: r => by have := wtBs_len r; simp only [wtBs, wtB, List.length_cons]; omega
theorem dat_at {w : World} {ds : List D} {g off : Nat} (hx : ∀ j u, (datC ds)[j]? = some u → w.cell? ⟨g, off + j, none⟩ = some u) (i : Nat) (h : i < ds.length) :
    w.cell? ⟨g, off + i * 3, none⟩ = some (.string (str (ds[i]'h).name)) ∧ w.cell? ⟨g, off + i * 3 + 1, none⟩ = some (.int .i64 (ds[i]'h).arity) ∧ w.cell? ⟨g, off + i * 3 + 2, none⟩ = some (.int .i64 (ds[i]'h).at') := by
  have G : ∀ (l : List D) (i : Nat) (h : i < l.length), (datC l)[i * 3]? = some (.string (str (l[i]'h).name)) ∧ (datC l)[i * 3 + 1]? = some (.int .i64 (l[i]'h).arity) ∧ (datC l)[i * 3 + 2]? = some (.int .i64 (l[i]'h).at') := by
    intro l
    induction l with
    | nil => intro i h; exact absurd h (Nat.not_lt_zero _)
    | cons a r ih =>
      intro i h
      have e : datC (a :: r) = .string (str a.name) :: .int .i64 a.arity :: .int .i64 a.at' :: datC r := by simp [datC]
      cases i with
      | zero => rw [e]; exact ⟨rfl, rfl, rfl⟩
      | succ i =>
        have := ih i (by simpa using h)
        rw [e, show (i + 1) * 3 = i * 3 + 1 + 1 + 1 by omega]
        simp only [List.getElem?_cons_succ, List.getElem_cons_succ]
        exact this
  obtain ⟨a, b, c⟩ := G ds i h
  exact ⟨hx _ _ a, by rw [Nat.add_assoc]; exact hx _ _ b, by rw [Nat.add_assoc]; exact hx _ _ c⟩
end Go.Proofs.YtcbdolflgpmaoaaDoor

