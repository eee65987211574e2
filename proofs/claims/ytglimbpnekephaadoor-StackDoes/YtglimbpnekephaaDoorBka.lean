/- Lists of frames that the law makes. -/
import Derived.Test.YtglimbpnekephaaDoorOpn
import Derived.Test.YtglimbpnekephaaDoorSam
import Derived.Laws.AppendOwn
import Derived.Deep.AppendLies
namespace Go.Proofs.YtglimbpnekephaaDoor
open Go.RowKit
set_option linter.unusedVariables false
set_option linter.unusedSimpArgs false

/-- a frame with where its pointers lie -/
structure Fp where
  f : Fr
  o : Option Addr
  c : Nat
def frC (x : Fp) : List Value := [.int .i64 x.f.k, .int .i64 x.f.a, .int .i64 x.f.b, .slice x.o x.f.ps.length x.c]
def cellsF (l : List Fp) : List Value := l.flatMap frC
theorem cellsF_snoc (l : List Fp) (x : Fp) : cellsF (l ++ [x]) = cellsF l ++ frC x := by simp [cellsF]
theorem cellsF_get : ∀ (l : List Fp) (i : Nat) (h : i < l.length), (cellsF l)[i * 4]? = some (.int .i64 (l[i]'h).f.k) ∧ (cellsF l)[i * 4 + 1]? = some (.int .i64 (l[i]'h).f.a) ∧ (cellsF l)[i * 4 + 2]? = some (.int .i64 (l[i]'h).f.b) ∧ (cellsF l)[i * 4 + 3]? = some (.slice (l[i]'h).o (l[i]'h).f.ps.length (l[i]'h).c)
  | [], _, h => absurd h (Nat.not_lt_zero _)
  | t :: r, 0, _ => ⟨rfl, rfl, rfl, rfl⟩
  | t :: r, i + 1, h => by
    have ih := cellsF_get r i (by simpa using h)
    have e : ∀ j, (cellsF (t :: r))[(i + 1) * 4 + j]? = (cellsF r)[i * 4 + j]? := fun j => by
      rw [show (i + 1) * 4 + j = (i * 4 + j) + 4 by omega]
      simp [cellsF, frC]
    exact ⟨(e 0).trans ih.1, (e 1).trans ih.2.1, (e 2).trans ih.2.2.1, (e 3).trans ih.2.2.2⟩
theorem info36 : (Tryd.prog.info? 36).map (fun i => (i.zero, i.size, i.bytes)) = some (some (.agg #[.int .i64 0, .int .i64 0, .int .i64 0, .slice none 0 0]), 4, 48) := by kernel_rfl
def Rw (w : World) (base : Nat) (v : Value) (l : List Fp) : Prop := w.ownsRow base 36 4 v l.length (cellsF l)
theorem Rw.nil (w : World) (base : Nat) : Rw w base (.slice none 0 0) [] := World.ownsRow_nil _ _ _ _
theorem Rw.same {w w' : World} {base : Nat} {v : Value} {l : List Fp} (h : Rw w base v l) (hb : ∀ g, base ≤ g → g < w.heap.size → w'.heap[g]? = w.heap[g]?) : Rw w' base v l := by
  refine ⟨h.1, ?_⟩
  rcases h.2 with hn | ⟨g, cap, cur, rfl, hg, hgg, rest⟩
  · exact .inl hn
  · exact .inr ⟨g, cap, cur, rfl, hg, (hb g hg (Array.getElem?_eq_some_iff.1 hgg).1).trans hgg, rest⟩
theorem Rw.later {w w' : World} {base : Nat} {v : Value} {l : List Fp} (h : Rw w base v l) (hb : Below w.heap.size w w') : Rw w' base v l := h.same fun g _ hg => hb.block g hg
theorem Rw.kept {w w' : World} {base p b : Nat} {v : Value} {l : List Fp} (h : Rw w base v l) (k : Kp p b w w') (hp : p < base) (hb : b < base) : Rw w' base v l := h.same fun g hg hl => k.block g hl (by omega) (by omega)
theorem Rw.form {w : World} {base : Nat} {v : Value} {l : List Fp} (h : Rw w base v l) : ∃ ga cap, v = .slice ga l.length cap ∧ l.length ≤ cap := by
  rcases h.2 with ⟨rfl, h0⟩ | ⟨g, cap, cur, rfl, hb, hg, X⟩
  · exact ⟨none, 0, by rw [h0], by omega⟩
  · exact ⟨_, cap, rfl, X.1⟩
/-- the four cells of one of them -/
theorem Rw.get {w : World} {base : Nat} {v : Value} {l : List Fp} (h : Rw w base v l) (i : Nat) (hi : i < l.length) : ∃ g cap, v = .slice (some ⟨g, 0, none⟩) l.length cap ∧ l.length ≤ cap ∧ base ≤ g ∧ w.cell? ⟨g, i * 4, none⟩ = some (.int .i64 (l[i]'hi).f.k) ∧ w.cell? ⟨g, i * 4 + 1, none⟩ = some (.int .i64 (l[i]'hi).f.a) ∧ w.cell? ⟨g, i * 4 + 2, none⟩ = some (.int .i64 (l[i]'hi).f.b) ∧ w.cell? ⟨g, i * 4 + 3, none⟩ = some (.slice (l[i]'hi).o (l[i]'hi).f.ps.length (l[i]'hi).c) := by
  have h0 := h
  rcases h.2 with ⟨rfl, h0⟩ | ⟨g, cap, cur, rfl, hb, hg, X⟩
  · omega
  · obtain ⟨c0, c1, c2, c3⟩ := cellsF_get l i hi
    have hh : w.ownsRow base 36 4 (.slice (some ⟨g, 0, none⟩) l.length cap) l.length (cellsF l) := h0
    exact ⟨g, cap, rfl, X.1, hb, by rw [hh.cellAt _ (by omega)]; exact c0, by rw [hh.cellAt _ (by omega)]; exact c1, by rw [hh.cellAt _ (by omega)]; exact c2, by rw [hh.cellAt _ (by omega)]; exact c3⟩
/-- what the append leaves -/
theorem rw_more {W w1 : World} {base : Nat} {v v' : Value} {l : List Fp} {x : Fp} (h : Rw W base v l)
    (hown : w1.ownsRow base 36 4 v' (l.length + 1) (cellsF l ++ frC x)) (hg : W.grownBy w1 v.ownBlock) : Rw w1 base v' (l ++ [x]) ∧ (∀ k, k < W.heap.size → k < base → w1.heap[k]? = W.heap[k]?) := by
  refine ⟨?_, fun k hk hb => hg.block k hk (fun e => by have := (h.lt k e.symm).1; omega)⟩
  unfold Rw
  rw [cellsF_snoc, List.length_append]
  exact hown
theorem news4 {W : World} {g : Nat} (x : Fp) {ty : TypeId} (h : W.heap[g]? = some (.cells #[.int .i64 x.f.k, .int .i64 x.f.a, .int .i64 x.f.b, .slice x.o x.f.ps.length x.c] ty (0, 0))) :
    ∀ j u, (frC x)[j]? = some u → W.cell? ((⟨g, 0, none⟩ : Addr).add j) = some u := World.news_of_block h
theorem off_old {w : World} {o : Option Addr} {cap p : Nat} {ps : List Int} (P : PS w o cap ps) (hp : w.heap.size ≤ p) : 0 < ps.length → Off o p := fun hn ad e => by
  obtain ⟨g, off, rfl, hx⟩ := P.num hn
  have := World.block_lt_of_cell? _ _ (hx 0 hn)
  cases e
  simp only at this ⊢
  omega
end Go.Proofs.YtglimbpnekephaaDoor
