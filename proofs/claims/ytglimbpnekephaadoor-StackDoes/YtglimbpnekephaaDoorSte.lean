/- Package stack: Push. -/
import Derived.Test.YtglimbpnekephaaDoorStd
namespace Go.Proofs.YtglimbpnekephaaDoor
open Go.RowKit
set_option linter.unusedVariables false
set_option linter.unusedSimpArgs false

/-! ## What is laid -/
theorem getD_set (l : List Int) (i j : Nat) (v : Int) : (l.set i v).getD j 0 = if i = j ∧ i < l.length then v else l.getD j 0 := by
  simp only [List.getD_eq_getElem?_getD, List.getElem?_set]
  by_cases h : i = j
  · subst h
    by_cases k : i < l.length
    · simp [k]
    · simp [k]
  · simp [h]
structure Lay (ws ws' : List Int) (o : Nat) (l : List Int) : Prop where
  len : ws'.length = ws.length
  inn : ∀ j, j < l.length → ws'.getD (o + j) 0 = l.getD j 0
  out : ∀ j, j < o ∨ o + l.length ≤ j → ws'.getD j 0 = ws.getD j 0
theorem Lay.nil (ws : List Int) (o : Nat) : Lay ws ws o [] := ⟨rfl, fun j h => by simp at h, fun _ _ => rfl⟩
theorem Lay.snoc {ws ws' : List Int} {o : Nat} {l : List Int} (h : Lay ws ws' o l) (x : Int) (hl : o + l.length < ws.length) : Lay ws (ws'.set (o + l.length) x) o (l ++ [x]) := by
  refine ⟨by simp [h.len], fun j hj => ?_, fun j hj => ?_⟩
  · rw [getD_set]
    simp only [List.length_append, List.length_cons, List.length_nil] at hj
    by_cases e : l.length = j
    · subst e
      rw [if_pos ⟨rfl, by rw [h.len]; omega⟩]
      simp
    · rw [if_neg (by omega), h.inn j (by omega)]
      simp only [List.getD_eq_getElem?_getD]
      rw [List.getElem?_append_left (by omega)]
  · simp only [List.length_append, List.length_cons, List.length_nil] at hj
    rw [getD_set, if_neg (by omega)]
    exact h.out j (by omega)

/-! ## Stacks of frames, the top one first -/
def wd : List Fr → List Int
  | [] => []
  | f :: r => wd r ++ (f.ps ++ [last f])
theorem wd_cons_len (f : Fr) (r : List Fr) : (wd (f :: r)).length = (wd r).length + (f.ps.length + 1) := by simp [wd]
/-- the same words beside the stack's -/
structure Bes (F N : Nat) (ws ws' : List Int) : Prop where
  len : ws'.length = ws.length
  out : ∀ j, j < F ∨ F + N ≤ j → ws'.getD j 0 = ws.getD j 0
theorem Bes.refl (F N : Nat) (ws : List Int) : Bes F N ws ws := ⟨rfl, fun _ _ => rfl⟩
theorem Bes.trans {F N : Nat} {a b c : List Int} (h : Bes F N a b) (k : Bes F N b c) : Bes F N a c := ⟨k.len.trans h.len, fun j hj => (k.out j hj).trans (h.out j hj)⟩
theorem Bes.of {F N o : Nat} {a b l : List Int} (h : Lay a b o l) (h1 : F ≤ o) (h2 : o + l.length ≤ F + N) : Bes F N a b := ⟨h.len, fun j hj => h.out j (by omega)⟩
structure Ss (w : World) (p a b : Nat) (ws : List Int) (F N k : Nat) (rs : List Fr) : Prop where
  stk : Stk w p a b ws F N (wd rs).length rs.length k
  ok : ∀ f ∈ rs, Okf f
  eq : ∀ i, i < (wd rs).length → ws.getD (F + i) 0 = (wd rs).getD i 0
theorem Ss.later {w w' : World} {p a b F N k : Nat} {ws : List Int} {rs : List Fr} (h : Ss w p a b ws F N k rs) (hb : Below w.heap.size w w') : Ss w' p a b ws F N k rs := ⟨h.stk.later hb, h.ok, h.eq⟩
theorem Ss.lt {w : World} {p a b F N k : Nat} {ws : List Int} {rs : List Fr} (h : Ss w p a b ws F N k rs) : p < w.heap.size ∧ a < w.heap.size ∧ b < w.heap.size := h.stk.lt
theorem rs_len (rs : List Fr) : rs.length ≤ (wd rs).length := by
  induction rs with
  | nil => simp [wd]
  | cons f r ih => rw [wd_cons_len]; simp; omega
theorem Ss.rd {w : World} {p a b F N k : Nat} {ws : List Int} {rs : List Fr} (h : Ss w p a b ws F N k rs) : RdA w p a b F ws (wd rs) :=
  ⟨h.stk.c0, h.stk.c1, h.stk.ar, by have := h.stk.fit; have := h.stk.un; omega, h.eq⟩
/-- a frame more -/
theorem Ss.push {w w' : World} {p a b F N k : Nat} {ws ws' : List Int} {rs : List Fr} {f : Fr} (h : Ss w p a b ws F N k rs) (hf : Okf f) (L : Lay ws ws' (F + (wd rs).length) (f.ps ++ [last f]))
    (S : Stk w' p a b ws' F N ((wd rs).length + (f.ps.length + 1)) (rs.length + 1) k) : Ss w' p a b ws' F N k (f :: rs) := by
  refine ⟨by rw [wd_cons_len]; exact S, fun g hg => by cases hg with | head => exact hf | tail _ q => exact h.ok g q, fun i hi => ?_⟩
  by_cases e : i < (wd rs).length
  · rw [L.out (F + i) (by omega), h.eq i e]
    simp only [wd, List.getD_eq_getElem?_getD]
    rw [List.getElem?_append_left e]
  · obtain ⟨j, rfl⟩ : ∃ j, i = (wd rs).length + j := ⟨i - (wd rs).length, by omega⟩
    rw [show F + ((wd rs).length + j) = F + (wd rs).length + j by omega, L.inn j (by rw [wd_cons_len] at hi; simp; omega)]
    simp only [wd, List.getD_eq_getElem?_getD]
    rw [List.getElem?_append_right (l₁ := wd rs) (show (wd rs).length ≤ (wd rs).length + j by omega)]
    simp

/-- the pointers lie in a block that the stack has not -/
def Off (o : Option Addr) (p : Nat) : Prop := ∀ ad, o = some ad → ad.block ≠ p
theorem PS.kept {w w' : World} {o : Option Addr} {cap p b : Nat} {ps : List Int} (h : PS w o cap ps) (k : Kp p b w w') (h1 : 0 < ps.length → Off o p) (h2 : 0 < ps.length → Off o b) : PS w' o cap ps := by
  refine ⟨h.cap, h.len, fun hn => ?_⟩
  obtain ⟨g, off, rfl, hx⟩ := h.num hn
  have lt := World.block_lt_of_cell? _ _ (hx 0 hn)
  exact ⟨g, off, rfl, fun i hi => (World.cell?_of_block (w := w) (a := ⟨g, off + i, none⟩) (k.block g lt (h1 hn _ rfl) (h2 hn _ rfl))).trans (hx i hi)⟩
theorem FrAt.same {w w' : World} {b : Nat} {k i p : Int} {v : Value} (h : FrAt w b k i p v) (e : w'.heap[b]? = w.heap[b]?) : FrAt w' b k i p v :=
  ⟨(World.cell?_of_block (w := w) (a := ⟨b, 0, none⟩) e).trans h.c0, (World.cell?_of_block (w := w) (a := ⟨b, 1, none⟩) e).trans h.c1, (World.cell?_of_block (w := w) (a := ⟨b, 2, none⟩) e).trans h.c2, (World.cell?_of_block (w := w) (a := ⟨b, 3, none⟩) e).trans h.c3⟩
def pushE (N u : Nat) (f : Fr) : Int := if rightE f ≠ 0 then rightE f else if N < u + (f.ps.length + 1) then 5 else 0

set_option maxHeartbeats 1000000 in
theorem push_wrong {w : World} {p : Nat} (f : Fr) (o : Option Addr) (cap : Nat) (T : Table w) (P : PS w o cap f.ps) (hr : rightE f ≠ 0) :
    Calls Tryd.prog 18 #[.pointer (some ⟨p, 0, none⟩), fv f o cap] w fun e w' => e = .returned (.int .i64 (rightE f)) ∧ Below w.heap.size w w' := by
  have RI := right_any f o cap (w.alloc (Obj.cells #[.int .i64 f.k, .int .i64 f.a, .int .i64 f.b, .slice o f.ps.length cap] 36)) (T.later (by go_grown)) (P.later (by go_grown))
  have hcb : (rightE f == 0) = false := by simp [hr]
  have hcb' : (rightE f != 0) = true := by simp [hr]
  unfold fv at *
  obtain ⟨fk, fa, fb, ps⟩ := f
  generalize rightE _ = E at *
  dsimp only at *
  generalize ps.length = n at *
  clear P T hr
  go_enter Tryd.func18, Tryd.ntmps18
  go_wp2_with (go_at_call 13; refine RI.mono ?_; rintro e w' ⟨rfl, B⟩)
  go_ret
  exact ⟨rfl, belowOn (by go_grown) B⟩
/-- the stack's part of Push up to its loop -/
theorem push_nil {w : World} (f : Fr) (o : Option Addr) (cap : Nat) :
    Calls Tryd.prog 18 #[.pointer none, fv f o cap] w fun e w' => e = .returned (.int .i64 1) ∧ Below w.heap.size w w' := by
  unfold fv at *
  obtain ⟨fk, fa, fb, ps⟩ := f
  dsimp only at *
  generalize ps.length = n at *
  go_enter Tryd.func18, Tryd.ntmps18
  go_wp2
  go_ret
  exact ⟨rfl, by go_grown⟩
def sizeAt (w : World) (v : Value) (n : Nat) : Prop := ∀ W, Below w.heap.size w W → Calls Tryd.prog 42 #[v] W fun e w' => e = .returned (.int .i64 (n + 1 : Nat)) ∧ Below W.heap.size W w'

set_option maxHeartbeats 2000000 in
theorem push_full {w : World} {p a b F N k : Nat} {ws : List Int} {rs : List Fr} (h : Ss w p a b ws F N k rs) (f : Fr) (o : Option Addr) (cap : Nat) (T : Table w) (P : PS w o cap f.ps) (hr : rightE f = 0) (hf : N < (wd rs).length + (f.ps.length + 1)) :
    Calls Tryd.prog 18 #[.pointer (some ⟨p, 0, none⟩), fv f o cap] w fun e w' => e = .returned (.int .i64 5) ∧ Below w.heap.size w w' := by
  have RI := right_any f o cap (w.alloc (Obj.cells #[.int .i64 f.k, .int .i64 f.a, .int .i64 f.b, .slice o f.ps.length cap] 36)) (T.later (by go_grown)) (P.later (by go_grown))
  have SZ := fun W => size_any f o cap W (show f.ps.length ≤ 17592186044416 by have := (Okf.of hr).n; omega)
  have HS := Hid.mk h.stk
  have FA := Hid.mk (FrAt.fresh w f.k f.a f.b (.slice o f.ps.length cap))
  have pl := h.lt.1
  have hN := h.stk.nn
  have hU := h.stk.un
  have hP := (Okf.of hr).n
  rw [hr] at RI
  unfold fv at *
  obtain ⟨fk, fa, fb, ps⟩ := f
  dsimp only at *
  generalize ps.length = n at *
  generalize (wd rs).length = u at *
  clear P T hr h
  obtain ⟨z, hz⟩ : ∃ z, z = w.heap.size := ⟨_, rfl⟩
  rw [← hz] at FA
  go_enter Tryd.func18, Tryd.ntmps18
  go_wp2_with (go_at_call 13; refine RI.mono ?_; rintro e w' ⟨rfl, B⟩)
  have B2 : Below w.heap.size w w' := belowOn (by go_grown) B
  have F2 := FA.out.later B
  have S2 := HS.out.later B2
  have HB2 := Hid.mk B2
  obtain ⟨x0, x1, x2, x3⟩ := F2
  have s2 := S2.c2
  have s3 := S2.c3
  rw [← hz]
  clear B B2 FA hz
  have HF2 : Hid (FrAt w' z fk fa fb (.slice o n cap)) := ⟨⟨x0, x1, x2, x3⟩⟩
  have HS2 := Hid.mk S2
  clear S2
  have kw : IntKind.i64.wrap ((N : Int) - u) = (N : Int) - u := wrapI (by omega) (by omega)
  have hd : decide (((n + 1 : Nat) : Int) > (N : Int) - u) = true := by simp; omega
  have hd2 : decide ((N : Int) - u < ((n + 1 : Nat) : Int)) = true := by simp; omega
  obtain ⟨m, hm⟩ : ∃ m : Nat, n + 1 = m := ⟨_, rfl⟩
  rw [hm] at hd hd2
  simp only [hm] at SZ
  go_region_held3 (fun w3 => w3.cell? ⟨z, 0, none⟩ = some (.int .i64 fk) ∧ w3.cell? ⟨z, 1, none⟩ = some (.int .i64 fa) ∧ w3.cell? ⟨z, 2, none⟩ = some (.int .i64 fb) ∧ w3.cell? ⟨z, 3, none⟩ = some (.slice o n cap) ∧ w3.cell? ⟨p, 2, none⟩ = some (.int .i64 N) ∧ w3.cell? ⟨p, 3, none⟩ = some (.int .i64 u)) (go_keep) (first
    | (go_at_call 42; refine (SZ _).mono ?_; rintro e w3 ⟨rfl, B3⟩; have S3 := (HS2.out.later (below_drew w')).later B3; have F3 := (HF2.out.later (below_drew w')).later B3; have t2 := S3.c2; have t3 := S3.c3; obtain ⟨y0, y1, y2, y3⟩ := F3))
  all_goals go_wp2
  all_goals go_ret
  all_goals exact ⟨rfl, belowOn HB2.out (belowOn (below_drew w') B3)⟩
end Go.Proofs.YtglimbpnekephaaDoor
