/- Package heap: what is told of a closure, and words that are written. -/
import Derived.Test.YtbdoekffadmejaaGreatDoorHmc
namespace Go.Proofs.YtbdoekffadmejaaGreatDoor
open Go.RowKit
set_option linter.unusedVariables false
set_option linter.unusedSimpArgs false
set_option maxRecDepth 100000

/-- What is asked first, now and later. -/
def SgL (w : World) (hv : Value) (g r k : Int) : Prop := ∀ W, Below w.heap.size w W → Sg W hv g r k
theorem sgl_nil (w : World) : SgL w (.pointer none) 1 1 1 := fun W _ => sg_nil W
theorem sgl_dead {w : World} {γ : Nat → Tg} {h : Nat} {c : Cf} (q : Dm w γ h c) : SgL w (pt h) 9 9 9 := fun W b => sg_dead (q.fr (Fr.later (fun _ => False) γ b) id id)
theorem sgl_rest {w : World} {γ : Nat → Tg} {h : Nat} {A : Ad} {H : Hs} (q : Hm w γ h (.pointer none) A H) : SgL w (pt h) 0 0 10 := fun W b => sg_rest (q.later b)
theorem sgl_work {w : World} {γ : Nat → Tg} {h b : Nat} {A : Ad} {H : Hs} (q : Hm w γ h (pt b) A H) : SgL w (pt h) 0 10 0 := fun W b => sg_work (q.later b)
theorem SgL.now {w : World} {hv : Value} {g r k : Int} (S : SgL w hv g r k) : Sg w hv g r k := S w (Below.refl _ _)
theorem SgL.later {w w' : World} {hv : Value} {g r k : Int} (S : SgL w hv g r k) (b : Below w.heap.size w w') : SgL w' hv g r k := fun W c => S W (b.trans (c.mono b.size))

abbrev hd (k i p n : Int) : Value := .agg #[.int .i64 k, .int .i64 i, .int .i64 p, .int .i64 n]
/-- What Head tells. -/
def HdC (w : World) (hv : Value) (x k i p n e' : Int) : Prop := Calls Tryz.prog 11 #[hv, .int .i64 x] w fun e w' => e = .returned (.tuple #[hd k i p n, .int .i64 e']) ∧ Below w.heap.size w w'
abbrev z4 : Obj := .cells #[.int .i64 0, .int .i64 0, .int .i64 0, .int .i64 0] 30
theorem below_z4 (w : World) : Below w.heap.size w (w.alloc z4) := (Below.refl _ w).alloc (Nat.le_refl _) _
theorem results_cell_row2 {P : Program} {fn : Func} {p u : Tmp} {ty : TypeId} (h : fn.results = #[.cell p ty, .tmp u]) (tmps : Array Value) (w : World) (g : Nat) (t : TypeId) (cs : Array Value) (fr : Nat × Nat) (d : TypeDesc)
    (hp : tmps.getD p undef = .pointer (some ⟨g, 0, none⟩)) (hg : w.heap[g]? = some (.cells cs t fr))
    (hu : P.underlying ty = some d) (hd : (match d with | .struct _ | .array _ _ => true | _ => false) = true) (hi : (P.info? ty).map (·.size) = some cs.size) :
    (results fn tmps).run P w = .ok (.tuple #[.agg cs, tmps.getD u undef]) w := by
  have hp' : tmps[p]?.getD undef = .pointer (some ⟨g, 0, none⟩) := by simpa using hp
  simp [results, h, hp', asAddr, run_loadVar_row w g t ty cs fr d hg hu hd hi]
theorem below4 {w W : World} {b : Nat} {x0 x1 x2 x3 : Value} (B : Below w.heap.size w W) (hb : w.heap.size ≤ b) : Below w.heap.size w ((((W.setCell ⟨b, 0, none⟩ x0).setCell ⟨b, 1, none⟩ x1).setCell ⟨b, 2, none⟩ x2).setCell ⟨b, 3, none⟩ x3) :=
  below_set (below_set (below_set (below_set B hb) hb) hb) hb
theorem hd_gone {w : World} {hv : Value} {g r k : Int} (S : SgL w hv g r k) (hg : g ≠ 0) (x : Int) : HdC w hv x 0 0 0 0 g := by
  have G := (S _ (below_z4 w)).gone
  have b0 : (g != 0) = true := by simpa using hg
  unfold HdC
  clear S hg
  go_enter Tryz.func11, Tryz.ntmps11
  go_wp2_with (go_at_call 48; refine G.mono ?_; rintro e w1 ⟨rfl, hw⟩; rw [hw]; clear hw)
  refine bodyPost_ret (v := .tuple #[hd 0 0 0 0, .int .i64 g]) (by simp [results, Tryz.results11, go_sem]) rfl ⟨rfl, ?_⟩
  go_grown
theorem hd_range {w : World} {hv : Value} {r k x : Int} (S : SgL w hv 0 r k) (V : ∀ W, Below w.heap.size w W → Vis W hv x false) : HdC w hv x 0 0 0 0 4 := by
  have G := (S _ (below_z4 w)).gone
  have V1 := V _ (below_z4 w)
  unfold HdC
  unfold Vis at V1
  clear S V
  go_enter Tryz.func11, Tryz.ntmps11
  go_wp2_with (first
    | (go_at_call 48; refine G.mono ?_; rintro e w1 ⟨rfl, hw⟩; rw [hw]; clear hw)
    | (go_at_call 49; refine V1.mono ?_; rintro e w1 ⟨rfl, B1⟩; have bb := heap_alloc_new w z4; have b0 := (B1.block w.heap.size (by simp)).trans bb; have HB := Hid.mk b0; have HB1 := Hid.mk B1; have z0 := Joins.unfrozen_of_block b0 0; have z1 := Joins.unfrozen_of_block b0 1; have z2 := Joins.unfrozen_of_block b0 2; have z3 := Joins.unfrozen_of_block b0 3; have p0 := hd4 b0 0; have p1 := hd4 b0 1; have p2 := hd4 b0 2; have p3 := hd4 b0 3; simp only [List.getElem?_toArray, List.getElem?_cons_zero, List.getElem?_cons_succ] at p0 p1 p2 p3; clear bb b0))
  exact bodyPost_ret (results_cell_row2 Tryz.results11 _ _ w.heap.size 30 _ (0, 0) _ rfl (set4 HB.out _ _ _ _) Tryz.underlying30 rfl size30) rfl ⟨rfl, below4 ((below_z4 w).trans (HB1.out.mono (by simp))) (Nat.le_refl _)⟩
theorem hd_ok {w : World} {γ : Nat → Tg} {h : Nat} {kv : Value} {A : Ad} {H : Hs} {r k x : Int} (q : Hm w γ h kv A H) (S : SgL w (pt h) 0 r k) (V : ∀ W, Below w.heap.size w W → Vis W (pt h) x true) :
    HdC w (pt h) x (Wo.unK (Bp.Ar.readW H.xs x)) (Wo.unI (Bp.Ar.readW H.xs x)) (Wo.unP (Bp.Ar.readW H.xs x)) (Wo.unN (Bp.Ar.readW H.xs x)) 0 := by
  have G := (S _ (below_z4 w)).gone
  have V1 := V _ (below_z4 w)
  have HD := fun (W : World) (b : Below w.heap.size w W) => head_any (q.later b) x
  unfold HdC
  unfold Vis at V1
  unfold hdV at HD
  generalize Wo.unK (Bp.Ar.readW H.xs x) = x1 at *
  generalize Wo.unI (Bp.Ar.readW H.xs x) = x2 at *
  generalize Wo.unP (Bp.Ar.readW H.xs x) = x3 at *
  generalize Wo.unN (Bp.Ar.readW H.xs x) = x4 at *
  clear S V q
  go_enter Tryz.func11, Tryz.ntmps11
  go_wp2_with (first
    | (go_at_call 48; refine G.mono ?_; rintro e w1 ⟨rfl, hw⟩; rw [hw]; clear hw)
    | (go_at_call 49; refine V1.mono ?_; rintro e w1 ⟨rfl, B1⟩; have HB1 := Hid.mk ((below_z4 w).trans (B1.mono (by simp))); have HD1 := HD _ HB1.out; have HB2 := Hid.mk ((B1.block w.heap.size (by simp)).trans (heap_alloc_new w z4)); clear HD)
    | (go_at_call 50; refine HD1.mono ?_; rintro e w2 ⟨rfl, B1⟩; have HB3 := Hid.mk (HB1.out.trans (B1.mono HB1.out.size)); have b0 := (B1.block w.heap.size (lt_of HB2.out)).trans HB2.out; have HB := Hid.mk b0; have z0 := Joins.unfrozen_of_block b0 0; have z1 := Joins.unfrozen_of_block b0 1; have z2 := Joins.unfrozen_of_block b0 2; have z3 := Joins.unfrozen_of_block b0 3; have p0 := hd4 b0 0; have p1 := hd4 b0 1; have p2 := hd4 b0 2; have p3 := hd4 b0 3; simp only [List.getElem?_toArray, List.getElem?_cons_zero, List.getElem?_cons_succ] at p0 p1 p2 p3; clear b0))
  exact bodyPost_ret (results_cell_row2 Tryz.results11 _ _ w.heap.size 30 _ (0, 0) _ rfl (set4 HB.out _ _ _ _) Tryz.underlying30 rfl size30) rfl ⟨rfl, below4 HB3.out (Nat.le_refl _)⟩
/-- Ptr and Non, by what Head tells. -/
theorem ptr_err {w : World} {hv : Value} {x i k a p n e' : Int} (D : HdC w hv x k a p n e') (he : e' ≠ 0) :
    Calls Tryz.prog 12 #[hv, .int .i64 x, .int .i64 i] w fun e w' => e = .returned (.tuple #[.int .i64 0, .int .i64 e']) ∧ Below w.heap.size w w' := by
  unfold HdC at D
  have b0 : (e' != 0) = true := by simpa using he
  clear he
  go_enter Tryz.func12, Tryz.ntmps12
  go_wp2_with (go_at_call 11; refine D.mono ?_; rintro e w1 ⟨rfl, B1⟩)
  go_ret2
  exact ⟨rfl, B1.alloc B1.size _⟩
theorem ptr_index {w : World} {hv : Value} {x i k a p n : Int} (D : HdC w hv x k a p n 0) (hi : oneB i p = false) :
    Calls Tryz.prog 12 #[hv, .int .i64 x, .int .i64 i] w fun e w' => e = .returned (.tuple #[.int .i64 0, .int .i64 45]) ∧ Below w.heap.size w w' := by
  unfold HdC at D
  have O := fun W => one_any W i p
  rw [hi] at O
  clear hi
  go_enter Tryz.func12, Tryz.ntmps12
  go_wp2_with (first
    | (go_at_call 11; refine D.mono ?_; rintro e w1 ⟨rfl, B1⟩)
    | (go_at_call 51; refine (O _).mono ?_; rintro e w2 ⟨rfl, hw⟩; rw [hw]; clear hw))
  go_ret2
  exact ⟨rfl, B1.alloc B1.size _⟩
theorem ptr_ok {w : World} {γ : Nat → Tg} {h : Nat} {kv : Value} {A : Ad} {H : Hs} {x i k a p n : Int} (q : Hm w γ h kv A H) (D : HdC w (pt h) x k a p n 0) (hi : oneB i p = true) (hx : 0 ≤ x ∧ x ≤ 1000000) (hp : p ≤ 4095) :
    Calls Tryz.prog 12 #[pt h, .int .i64 x, .int .i64 i] w fun e w' => e = .returned (.tuple #[.int .i64 (ptrW H.xs (x + 1 + i)), .int .i64 0]) ∧ Below w.heap.size w w' := by
  unfold HdC at D
  have O := fun W => one_any W i p
  rw [hi] at O
  have io := oneB_yes.1 hi
  have P := fun (W : World) (b : Below w.heap.size w W) => pointer_any (q.later b) x i hx (by omega)
  clear hi q
  go_enter Tryz.func12, Tryz.ntmps12
  go_wp2_with (first
    | (go_at_call 11; refine D.mono ?_; rintro e w1 ⟨rfl, B1⟩; have P1 := P _ (B1.alloc B1.size (.cells #[.int .i64 k, .int .i64 a, .int .i64 p, .int .i64 n] 30)); clear P)
    | (go_at_call 51; refine (O _).mono ?_; rintro e w2 ⟨rfl, hw⟩; rw [hw]; clear hw)
    | (go_at_call 52; refine P1.mono ?_; rintro e w2 ⟨rfl, hw⟩; rw [hw]; clear hw))
  go_ret2
  exact ⟨rfl, B1.alloc B1.size _⟩
theorem non_err {w : World} {hv : Value} {x i k a p n e' : Int} (D : HdC w hv x k a p n e') (he : e' ≠ 0) :
    Calls Tryz.prog 19 #[hv, .int .i64 x, .int .i64 i] w fun e w' => e = .returned (.tuple #[.int .u64 0, .int .i64 e']) ∧ Below w.heap.size w w' := by
  unfold HdC at D
  have b0 : (e' != 0) = true := by simpa using he
  clear he
  go_enter Tryz.func19, Tryz.ntmps19
  go_wp2_with (go_at_call 11; refine D.mono ?_; rintro e w1 ⟨rfl, B1⟩)
  go_ret2
  exact ⟨rfl, B1.alloc B1.size _⟩
theorem non_index {w : World} {hv : Value} {x i k a p n : Int} (D : HdC w hv x k a p n 0) (hi : oneB i n = false) :
    Calls Tryz.prog 19 #[hv, .int .i64 x, .int .i64 i] w fun e w' => e = .returned (.tuple #[.int .u64 0, .int .i64 45]) ∧ Below w.heap.size w w' := by
  unfold HdC at D
  have O := fun W => one_any W i n
  rw [hi] at O
  clear hi
  go_enter Tryz.func19, Tryz.ntmps19
  go_wp2_with (first
    | (go_at_call 11; refine D.mono ?_; rintro e w1 ⟨rfl, B1⟩)
    | (go_at_call 51; refine (O _).mono ?_; rintro e w2 ⟨rfl, hw⟩; rw [hw]; clear hw))
  go_ret2
  exact ⟨rfl, B1.alloc B1.size _⟩
theorem non_ok {w : World} {γ : Nat → Tg} {h : Nat} {kv : Value} {A : Ad} {H : Hs} {x i k a p n : Int} (q : Hm w γ h kv A H) (D : HdC w (pt h) x k a p n 0) (hi : oneB i n = true) (hx : 0 ≤ x ∧ x ≤ 1000000) (hp : 0 ≤ p ∧ p ≤ 4095) (hn : n ≤ 4095) :
    Calls Tryz.prog 19 #[pt h, .int .i64 x, .int .i64 i] w fun e w' => e = .returned (.tuple #[.int .u64 (Bp.Ar.readW H.xs (x + 1 + p + i)), .int .i64 0]) ∧ Below w.heap.size w w' := by
  unfold HdC at D
  have O := fun W => one_any W i n
  rw [hi] at O
  have io := oneB_yes.1 hi
  have P := fun (W : World) (b : Below w.heap.size w W) => word_any (q.later b) (x + 1 + p + i)
  clear hi q
  go_enter Tryz.func19, Tryz.ntmps19
  go_wp2_with (first
    | (go_at_call 11; refine D.mono ?_; rintro e w1 ⟨rfl, B1⟩; have P1 := P _ (B1.alloc B1.size (.cells #[.int .i64 k, .int .i64 a, .int .i64 p, .int .i64 n] 30)); clear P)
    | (go_at_call 51; refine (O _).mono ?_; rintro e w2 ⟨rfl, hw⟩; rw [hw]; clear hw)
    | (go_at_call 57; refine P1.mono ?_; rintro e w2 ⟨rfl, hw⟩; rw [hw]; clear hw))
  go_ret2
  exact ⟨rfl, B1.alloc B1.size _⟩

/-! ### Words that are written -/
theorem write_in {xs : List Int} (h : ∀ x ∈ xs, 0 ≤ x ∧ x ≤ 18446744073709551615) (i v : Int) (hv : 0 ≤ v ∧ v ≤ 18446744073709551615) : ∀ x ∈ Bp.Ar.writeL xs i v, 0 ≤ x ∧ x ≤ 18446744073709551615 := by
  unfold Bp.Ar.writeL
  split
  · intro x hx
    rcases List.mem_or_eq_of_mem_set hx with r | r
    · exact h x r
    · rw [r]; exact hv
  · exact h
theorem write_len (xs : List Int) (i v : Int) : (Bp.Ar.writeL xs i v).length = xs.length := by unfold Bp.Ar.writeL; split <;> simp
section
variable {w : World} {γ : Nat → Tg} {h : Nat} {k : Value} {A : Ad} {H : Hs}
abbrev tar (t : Tg) : Prop := t = .ar
/-- A word is written. -/
def Wrote (w w' : World) (γ : Nat → Tg) (h : Nat) (k : Value) (A : Ad) (H : Hs) (i v : Int) : Prop := Hm w' γ h k A { H with xs := Bp.Ar.writeL H.xs i v } ∧ Fr tar w w' γ γ
theorem write_hm (q : Hm w γ h k A H) (i v : Int) (hv : 0 ≤ v ∧ v ≤ 18446744073709551615) : Calls Tryz.prog 64 #[pt A.a, .int .i64 i, .int .u64 v] w fun e w' => (∃ z, e = .returned (.int .i64 z)) ∧ Wrote w w' γ h k A H i v := by
  obtain ⟨ab, hA, t1, t2⟩ := q.ar
  refine (Bp.Ar.write_any hA i v).mono ?_
  rintro e w' ⟨rfl, h2, g⟩
  have F : Fr tar w w' γ γ := Fr.one g t2
  exact ⟨⟨_, rfl⟩, q.words ⟨ab, h2, t1, t2⟩ F (write_len _ _ _) (write_in q.word i v hv), F⟩
theorem setptr_any (q : Hm w γ h k A H) (at' i p : Int) (ha : 0 ≤ at' ∧ at' ≤ 1000000) (hi : 0 ≤ i ∧ i ≤ 1000000) (hp : 0 ≤ p ∧ p ≤ 1000000) :
    Calls Tryz.prog 63 #[pt h, .int .i64 at', .int .i64 i, .int .i64 p] w fun e w' => e = .returned (.tuple #[]) ∧ Wrote w w' γ h k A H (at' + 1 + i) p := by
  have c6 := q.ca
  have W := write_hm q (at' + 1 + i) p (by omega)
  have e1 : IntKind.u64.wrap p = p := by rw [IntKind.wrap_u64]; omega
  clear q
  go_enter Tryz.func63, Tryz.ntmps63
  go_wp2_with (go_at_call 64; refine W.mono ?_; rintro e w1 ⟨⟨z, rfl⟩, HW⟩)
  go_end0
  exact ⟨rfl, HW⟩
theorem pack_in (k i p n : Int) : 0 ≤ Wo.packW k i p n ∧ Wo.packW k i p n ≤ 18446744073709551615 := by
  unfold Wo.packW
  split
  · rename_i e
    unfold Wo.packE at e
    split at e
    · omega
    · split at e
      · omega
      · split at e
        · omega
        · rename_i h1 h2 h3
          have a := Wo.kindB_yes.1 (by simpa using h1)
          have b := Wo.partsB_yes.1 (by simpa using h2)
          unfold Wo.packed
          omega
  · omega
theorem sethd_any (q : Hm w γ h k A H) (at' x i p n : Int) (hp : p ≤ 9223372036854775807) :
    Calls Tryz.prog 62 #[pt h, .int .i64 at', hd x i p n] w fun e w' => e = .returned (.tuple #[]) ∧ ∃ w0, Below w.heap.size w w0 ∧ Wrote w0 w' γ h k A H at' (Wo.packW x i p n) := by
  have B1 := (Below.refl _ w).alloc (Nat.le_refl _) (.cells #[.int .i64 x, .int .i64 i, .int .i64 p, .int .i64 n] 30)
  have q1 := q.later B1
  have PK := Wo.pack_any x i p n _ q1.gl.sp hp
  have W := fun (W : World) (b : Below w.heap.size w W) => write_hm (q.later b) at' (Wo.packW x i p n) (pack_in x i p n)
  have CA := fun (W : World) (b : Below w.heap.size w W) => (q.later b).ca
  generalize Wo.packW x i p n = y at *
  generalize Wo.packE x i p n = y2 at *
  clear q q1
  go_enter Tryz.func62, Tryz.ntmps62
  go_wp2_with (first
    | (go_at_call 120; refine PK.mono ?_; rintro e w1 ⟨rfl, B2⟩; have HB := Hid.mk (B1.trans (B2.mono (by simp))); have c6 := CA _ HB.out; have W1 := W _ HB.out; clear CA W B2)
    | (go_at_call 64; refine W1.mono ?_; rintro e w2 ⟨⟨z, rfl⟩, HW⟩))
  go_end0
  exact ⟨rfl, _, HB.out, HW⟩
end
end Go.Proofs.YtbdoekffadmejaaGreatDoor
