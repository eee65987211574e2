/- What comes at any rate: a thunk that is 5. -/
import Derived.Test.YtidplckoolmaiaaDoorCdr
import Derived.Test.YtidplckoolmaiaaDoorCdp
namespace Go.Proofs.YtidplckoolmaiaaDoor
open Go.RowKit
set_option linter.unusedVariables false
set_option linter.unusedSimpArgs false

/-- the thunk that is 5, with the place that is returned -/
def five1 (a : Int) : Cd := ⟨[], [], [⟨6, 0, 0, 0⟩], [⟨1, 0, 0, [], [], [⟨2, 0, 5, []⟩], []⟩, ⟨3, a, 1, [], [], [], []⟩]⟩
structure FV (w : World) (g1 g2 g3 : Nat) (a : Int) : Prop where
  h1 : w.heap[g1]? = some (.cells #[.int .i64 6, .int .i64 0, .int .i64 0, .int .i64 0] 48 (0, 0))
  h2 : w.heap[g2]? = some (.cells #[.int .i64 2, .int .i64 0, .int .i64 5, .slice none 0 0] 30 (0, 0))
  h3 : w.heap[g3]? = some (.cells #[.int .i64 1, .int .i64 0, .int .i64 0, .slice none 0 0, .slice none 0 0, .slice (some ⟨g2, 0, none⟩) 1 1, .slice none 0 0, .int .i64 3, .int .i64 a, .int .i64 1, .slice none 0 0, .slice none 0 0, .slice none 0 0, .slice none 0 0] 42 (0, 0))
theorem FV.later {w w' : World} {g1 g2 g3 : Nat} {a : Int} (h : FV w g1 g2 g3 a) (hb : Below w.heap.size w w') : FV w' g1 g2 g3 a :=
  ⟨(hb.block _ (Array.getElem?_eq_some_iff.1 h.h1).1).trans h.h1, (hb.block _ (Array.getElem?_eq_some_iff.1 h.h2).1).trans h.h2, (hb.block _ (Array.getElem?_eq_some_iff.1 h.h3).1).trans h.h3⟩
theorem cellB {w : World} {g : Nat} {cs : Array Value} {t : TypeId} {fr : Nat × Nat} (h : w.heap[g]? = some (.cells cs t fr)) (o : Nat) : w.cell? ⟨g, o, none⟩ = cs[o]? := Joins.cell_of_block h o
theorem setCell_other (w : World) (g o k : Nat) {v : Value} (h : ¬ k = g) : (w.setCell ⟨g, o, none⟩ v).heap[k]? = w.heap[k]? := by
  simp only [World.setCell, Array.getElem?_modify]
  rw [if_neg (fun e => h e.symm)]
theorem nilL {α : Type} (w : World) (sz : Nat) (P : α → List Value → Prop) : Lst w sz P [] (.slice none 0 0) := ⟨none, 0, rfl, ⟨Nat.le_refl _, Nat.zero_le _⟩, fun h => by simp at h⟩
theorem oneL {α : Type} {w : World} {g sz : Nat} {P : α → List Value → Prop} {x : α} (c : List Value) (hc : P x c) (h : ∀ j u, c[j]? = some u → w.cell? ⟨g, j, none⟩ = some u) : Lst w sz P [x] (.slice (some ⟨g, 0, none⟩) 1 1) :=
  ⟨_, 1, rfl, ⟨Nat.le_refl _, by unfold maxLen; simp⟩, fun _ => ⟨g, 0, rfl, fun i y hi => by
    match i, hi with
    | 0, hi =>
      simp at hi; subst hi
      exact ⟨c, hc, fun j u hj => by simpa using h j u hj⟩⟩⟩
theorem twoL {α : Type} {w : World} {g sz : Nat} {P : α → List Value → Prop} {x y : α} (c d : List Value) (hc : P x c) (hd : P y d) (h : ∀ j u, c[j]? = some u → w.cell? ⟨g, j, none⟩ = some u) (k : ∀ j u, d[j]? = some u → w.cell? ⟨g, sz + j, none⟩ = some u) : Lst w sz P [x, y] (.slice (some ⟨g, 0, none⟩) 2 2) :=
  ⟨_, 2, rfl, ⟨Nat.le_refl _, by unfold maxLen; simp⟩, fun _ => ⟨g, 0, rfl, fun i z hi => by
    match i, hi with
    | 0, hi =>
      simp at hi; subst hi
      exact ⟨c, hc, fun j u hj => by simpa using h j u hj⟩
    | 1, hi =>
      simp at hi; subst hi
      exact ⟨d, hd, fun j u hj => by simpa using k j u hj⟩⟩⟩
theorem FV.cv {w : World} {g1 g2 g3 : Nat} {a : Int} (h : FV w g1 g2 g3 a) : Cv w (five1 a) (.slice none 0 0) (.slice none 0 0) (.slice (some ⟨g1, 0, none⟩) 1 1) (.slice (some ⟨g3, 0, none⟩) 2 2) := by
  refine ⟨nilL w 2 isCon, nilL w 2 isCon, ?_, ?_⟩
  · exact oneL _ rfl (fun j u hj => by rw [cellB h.h1]; simpa using hj)
  · refine twoL _ _ ⟨_, _, _, _, rfl, nilL _ _ _, nilL _ _ _, oneL _ ⟨_, rfl, nilL _ _ _⟩ (fun j u hj => by rw [cellB h.h2]; simpa using hj), nilL _ _ _⟩ ⟨_, _, _, _, rfl, nilL _ _ _, nilL _ _ _, nilL _ _ _, nilL _ _ _⟩ (fun j u hj => ?_) (fun j u hj => ?_)
    · rw [cellB h.h3]
      match j, hj with
      | 0, hj => simpa using hj
      | 1, hj => simpa using hj
      | 2, hj => simpa using hj
      | 3, hj => simpa using hj
      | 4, hj => simpa using hj
      | 5, hj => simpa using hj
      | 6, hj => simpa using hj
    · rw [cellB h.h3]
      match j, hj with
      | 0, hj => simpa using hj
      | 1, hj => simpa using hj
      | 2, hj => simpa using hj
      | 3, hj => simpa using hj
      | 4, hj => simpa using hj
      | 5, hj => simpa using hj
      | 6, hj => simpa using hj
theorem five_sc (a : Int) (ha : In64 a) : Sc (five1 a) := by
  refine ⟨by simp [five1], fun x hx => ?_⟩
  simp [five1] at hx
  rcases hx with rfl | rfl
  · exact ⟨⟨by simp, by simp, by simp, by simp⟩, by unfold In64; simp⟩
  · exact ⟨⟨by simp, by simp, by simp, by simp⟩, ha⟩
theorem five_sq (a : Int) : Sq (five1 a) := by
  refine ⟨fun f hf => ?_, fun x hx => ?_⟩
  · simp [five1] at hf; rw [hf]
  · simp [five1] at hx
    rcases hx with rfl | rfl
    · exact Or.inl ⟨rfl, fun k hk => by simp at hk; rw [hk]⟩
    · exact Or.inr rfl
theorem five_w0 (a : Int) : wrongI (five1 a) 0 ⟨1, 0, 0, [], [], [⟨2, 0, 5, []⟩], []⟩ = 0 := by rfl
theorem five_w1 : wrongI (five1 0) 1 ⟨3, 0, 1, [], [], [], []⟩ = 0 := by rfl
theorem five_w2 : wrongI (five1 1) 1 ⟨3, 1, 1, [], [], [], []⟩ = 4 := by rfl
theorem five_i (a : Int) : wrongInf (five1 a) ⟨6, 0, 0, 0⟩ = 0 := by rfl
theorem five_good : Good (five1 0) := by
  refine ⟨fun a h => by simp [five1] at h, fun f h => ?_, fun a h => by simp [five1] at h, fun i x h => ?_⟩
  · simp [five1] at h; rw [h]; exact five_i 0
  · match i, h with
    | 0, h => simp [five1] at h; subst h; exact five_w0 0
    | 1, h => simp [five1] at h; subst h; exact five_w1
theorem five_bad {z e : Int} (h : Chk (five1 1) z e) : z = 1 ∧ e = 4 := by
  rcases h with h | ⟨he, h⟩
  · have := h.1.2.2.2 1 _ rfl
    exact absurd (five_w2.symm.trans this) (by decide)
  rcases h with ⟨i, a, h, _, q⟩ | ⟨i, f, h, _, q⟩ | ⟨i, a, h, _, q⟩ | ⟨i, x, h, hz, q⟩
  · simp [five1] at h
  · match i, h with
    | 0, h => simp [five1] at h; subst h; rw [five_i] at q; exact absurd q he
  · simp [five1] at h
  · match i, h with
    | 0, h => simp [five1] at h; subst h; exact absurd (q.trans (five_w0 1)) he
    | 1, h => simp [five1] at h; subst h; exact ⟨hz, q.trans five_w2⟩
set_option maxRecDepth 100000 in
set_option maxHeartbeats 1000000 in
theorem five_any (w : World) : Calls Tryd.prog 13 #[] w fun e w' => ∃ g1 g2 g3, e = .returned (.agg #[.slice none 0 0, .slice none 0 0, .slice (some ⟨g1, 0, none⟩) 1 1, .slice (some ⟨g3, 0, none⟩) 2 2]) ∧ FV w' g1 g2 g3 0 ∧ (w.heap.size ≤ g3 ∧ ¬ g1 = g3 ∧ ¬ g2 = g3) ∧ Below w.heap.size w w' := by
  go_enter Tryd.func13, Tryd.ntmps13
  go_wp2
  refine bodyPost_ret (v := .agg #[.slice none 0 0, .slice none 0 0, .slice (some ⟨w.heap.size + 1, 0, none⟩) 1 1, .slice (some ⟨w.heap.size + 1 + 1 + 1, 0, none⟩) 2 2]) (by simp [results, Tryd.results13, go_sem]) rfl ⟨w.heap.size + 1, w.heap.size + 1 + 1, w.heap.size + 1 + 1 + 1, rfl, ?_, ⟨by omega, by omega, by omega⟩, by go_grown⟩
  obtain ⟨W0, hW0⟩ : ∃ W0, W0 = w.alloc (.cells #[.slice none 0 0, .slice none 0 0, .slice (some ⟨w.heap.size + 1, 0, none⟩) 1 1, .slice (some ⟨w.heap.size + 1 + 1 + 1, 0, none⟩) 2 2] 27) := ⟨_, rfl⟩
  rw [← hW0]
  have s0 : W0.heap.size = w.heap.size + 1 := by subst hW0; simp
  rw [← s0]
  clear hW0
  obtain ⟨W1, hW1⟩ : ∃ W1, W1 = W0.alloc (.cells #[.int .i64 6, .int .i64 0, .int .i64 0, .int .i64 0] 48) := ⟨_, rfl⟩
  rw [← hW1]
  have s1 : W1.heap.size = W0.heap.size + 1 := by subst hW1; simp
  have f1 : W1.heap[W0.heap.size]? = some (.cells #[.int .i64 6, .int .i64 0, .int .i64 0, .int .i64 0] 48 (0, 0)) := by subst hW1; exact heap_alloc_new _ _
  rw [← s1]
  clear hW1
  obtain ⟨W2, hW2⟩ : ∃ W2, W2 = W1.alloc (.cells #[.int .i64 2, .int .i64 0, .int .i64 5, .slice none 0 0] 30) := ⟨_, rfl⟩
  rw [← hW2]
  have s2 : W2.heap.size = W1.heap.size + 1 := by subst hW2; simp
  have f2 : W2.heap[W1.heap.size]? = some (.cells #[.int .i64 2, .int .i64 0, .int .i64 5, .slice none 0 0] 30 (0, 0)) := by subst hW2; exact heap_alloc_new _ _
  have B2 : Below W1.heap.size W1 W2 := by subst hW2; go_grown
  rw [← s2]
  clear hW2
  refine ⟨?_, ?_, heap_alloc_new _ _⟩
  · exact ((belowOn B2 (by go_grown)).block _ (by omega)).trans f1
  · exact ((show Below W2.heap.size W2 (W2.alloc _) by go_grown).block _ (by omega)).trans f2
def hd5 : Int × Int × Int × Int × Int := (2, 0, 0, 1, 0)
set_option maxRecDepth 100000 in
set_option maxHeartbeats 4000000 in
theorem awake_any (w : World) (T : Table w) : Calls Tryd.prog 7 #[] w fun e w' => e = .returned (.bool true) ∧ Below w.heap.size w w' := by
  have F : ∀ W, Calls Tryd.prog 13 #[] W _ := five_any
  have CK0 : Hid (∀ W g1 g2 g3, Below w.heap.size w W → FV W g1 g2 g3 0 → Calls Tryd.prog 10 #[.agg #[.slice none 0 0, .slice none 0 0, .slice (some ⟨g1, 0, none⟩) 1 1, .slice (some ⟨g3, 0, none⟩) 2 2]] W fun e w' => e = .returned (.tuple #[.int .i64 0, .int .i64 0]) ∧ Below W.heap.size W w') := ⟨fun W g1 g2 g3 hB hF => (check_any (T.later hB) hF.cv (five_sc 0 (by unfold In64; simp))).mono fun e w' ⟨z, r, he, hc, hb⟩ => ⟨by obtain ⟨rfl, rfl⟩ := hc.ok five_good; exact he, hb⟩⟩
  have CK1 : Hid (∀ W g1 g2 g3, Below w.heap.size w W → FV W g1 g2 g3 1 → Calls Tryd.prog 10 #[.agg #[.slice none 0 0, .slice none 0 0, .slice (some ⟨g1, 0, none⟩) 1 1, .slice (some ⟨g3, 0, none⟩) 2 2]] W fun e w' => e = .returned (.tuple #[.int .i64 1, .int .i64 4]) ∧ Below W.heap.size W w') := ⟨fun W g1 g2 g3 hB hF => (check_any (T.later hB) hF.cv (five_sc 1 (by unfold In64; simp))).mono fun e w' ⟨z, r, he, hc, hb⟩ => ⟨by obtain ⟨rfl, rfl⟩ := five_bad hc; exact he, hb⟩⟩
  have HD : ∀ W, Calls Tryd.prog 5 #[.agg #[.int .i64 2, .int .i64 0, .int .i64 5, .slice none 0 0]] W fun e w' => e = .returned (.tuple #[.agg #[.int .i64 2, .int .i64 0, .int .i64 0, .int .i64 1], .int .i64 0]) ∧ Below W.heap.size W w' := fun W => head5_any ⟨2, 0, 5, []⟩ (.slice none 0 0) W (nilL W 1 isInt)
  have SM : Hid (∀ W g1 g2 g3, FV W g1 g2 g3 1 → Calls Tryd.prog 14 #[.agg #[.slice none 0 0, .slice none 0 0, .slice (some ⟨g1, 0, none⟩) 1 1, .slice (some ⟨g3, 0, none⟩) 2 2], .agg #[.slice none 0 0, .slice none 0 0, .slice (some ⟨g1, 0, none⟩) 1 1, .slice (some ⟨g3, 0, none⟩) 2 2]] W fun e w' => e = .returned (.bool true) ∧ Below W.heap.size W w') := ⟨fun W g1 g2 g3 hF => same_any hF.cv (five_sq 1)⟩
  clear T F
  go_enter Tryd.func7, Tryd.ntmps7
  go_wp2_with (first
    | (go_at_call 14; have zz := F5; refine (SM.out _ _ _ _ F5).mono ?_; rintro e w9 ⟨rfl, B9⟩)
    | (go_at_call 5; have zz := F4; refine (HD _).mono ?_; rintro e w6 ⟨rfl, G6⟩; have B6 := belowOn B5 G6; have F5 := (F4.later G6).later (show Below w6.heap.size w6 (w6.alloc (.cells #[.int .i64 2, .int .i64 0, .int .i64 0, .int .i64 1] 32)) by go_grown); have p0 := cellLater (belowOn G6 (show Below w6.heap.size w6 (w6.alloc (.cells #[.int .i64 2, .int .i64 0, .int .i64 0, .int .i64 1] 32)) by go_grown)) y0; have p1 := cellLater (belowOn G6 (show Below w6.heap.size w6 (w6.alloc (.cells #[.int .i64 2, .int .i64 0, .int .i64 0, .int .i64 1] 32)) by go_grown)) y1; have p2 := cellLater (belowOn G6 (show Below w6.heap.size w6 (w6.alloc (.cells #[.int .i64 2, .int .i64 0, .int .i64 0, .int .i64 1] 32)) by go_grown)) y2; have p3 := cellLater (belowOn G6 (show Below w6.heap.size w6 (w6.alloc (.cells #[.int .i64 2, .int .i64 0, .int .i64 0, .int .i64 1] 32)) by go_grown)) y3)
    | (go_at_call 10; have zz := F3; refine (CK1.out _ _ _ _ B4 F3).mono ?_; rintro e w5 ⟨rfl, G5⟩; have B5 := belowOn B4 G5; have F4 := F3.later G5; have y0 := cellLater G5 x0; have y1 := cellLater G5 x1; have y2 := cellLater G5 x2; have y3 := cellLater G5 x3; have m5 : w5.cell? ⟨h3, 5, none⟩ = some (.slice (some ⟨h2, 0, none⟩) 1 1) := cellB F4.h3 5; have n0 : w5.cell? ⟨h2, 0, none⟩ = some (.int .i64 2) := cellB F4.h2 0; have n1 : w5.cell? ⟨h2, 1, none⟩ = some (.int .i64 0) := cellB F4.h2 1; have n2 : w5.cell? ⟨h2, 2, none⟩ = some (.int .i64 5) := cellB F4.h2 2; have n3 : w5.cell? ⟨h2, 3, none⟩ = some (.slice none 0 0) := cellB F4.h2 3)
    | (go_at_call 13; have zz := B2; go_loud (refine (five_any _).mono ?_; rintro e w3 ⟨h1, h2, h3, rfl, F2, ⟨l3, d1, d2⟩, G3⟩; have B3 := belowOn B2 G3; have s3 := G3.size; have FA := F2.later (show Below w3.heap.size w3 (w3.alloc (.cells #[.slice none 0 0, .slice none 0 0, .slice (some ⟨h1, 0, none⟩) 1 1, .slice (some ⟨h3, 0, none⟩) 2 2] 27)) by go_grown); have hlt : h3 < w3.heap.size := (Array.getElem?_eq_some_iff.1 F2.h3).1; have o8 := Joins.cell_of_block FA.h3 8; have z8 := Joins.unfrozen_of_block FA.h3 8; have Bs : Below w.heap.size w (w3.setCell ⟨h3, 8, none⟩ (.int .i64 1)) := B3.setCell (Nat.le_trans B2.size l3) _; have Fs : FV (w3.setCell ⟨h3, 8, none⟩ (.int .i64 1)) h1 h2 h3 1 := ⟨(setCell_other _ _ _ _ d1).trans F2.h1, (setCell_other _ _ _ _ d2).trans F2.h2, Joins.block_setCell (i := 8) F2.h3 _⟩; have G4 : Below (w3.setCell ⟨h3, 8, none⟩ (.int .i64 1)).heap.size (w3.setCell ⟨h3, 8, none⟩ (.int .i64 1)) ((w3.setCell ⟨h3, 8, none⟩ (.int .i64 1)).alloc (.cells #[.slice none 0 0, .slice none 0 0, .slice (some ⟨h1, 0, none⟩) 1 1, .slice (some ⟨h3, 0, none⟩) 2 2] 27)) := Joins.below_alloc1 _ _; have B4 := belowOn Bs G4; have F3 := Fs.later G4; have xx : ∀ o u, #[.slice none 0 0, .slice none 0 0, .slice (some ⟨h1, 0, none⟩) 1 1, .slice (some ⟨h3, 0, none⟩) 2 2][o]? = some u → ((w3.setCell ⟨h3, 8, none⟩ (.int .i64 1)).alloc (.cells #[.slice none 0 0, .slice none 0 0, .slice (some ⟨h1, 0, none⟩) 1 1, .slice (some ⟨h3, 0, none⟩) 2 2] 27)).cell? ⟨w3.heap.size, o, none⟩ = some u := fun o u ho => (by have := cellNew (w3.setCell ⟨h3, 8, none⟩ (.int .i64 1)) #[.slice none 0 0, .slice none 0 0, .slice (some ⟨h1, 0, none⟩) 1 1, .slice (some ⟨h3, 0, none⟩) 2 2] 27 o u ho; rwa [show (w3.setCell ⟨h3, 8, none⟩ (.int .i64 1)).heap.size = w3.heap.size by simp [World.setCell]] at this); have x0 := xx 0 _ rfl; have x1 := xx 1 _ rfl; have x2 := xx 2 _ rfl; have x3 := xx 3 _ rfl; clear xx FA Bs Fs G4))
    | (go_at_call 10; refine (CK0.out _ _ _ _ B1 F1).mono ?_; rintro e w2 ⟨rfl, G2⟩; have B2 := belowOn B1 G2)
    | (go_at_call 13; refine (five_any _).mono ?_; rintro e w1 ⟨g1, g2, g3, rfl, F1, _, B1⟩))
  go_ret
  exact ⟨rfl, belowOn B6 (belowOn (by go_grown) B9)⟩
end Go.Proofs.YtidplckoolmaiaaDoor
