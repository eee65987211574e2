/- Package heap: where closures stand; what is set aside, what has moved; what may be looked at. -/
import Derived.Test.YtbdoekffadmejaaGreatDoorHmb
namespace Go.Proofs.YtbdoekffadmejaaGreatDoor
open Go.RowKit
open Go.Maps (Keyed int_keyed)
set_option linter.unusedVariables false
set_option linter.unusedSimpArgs false
set_option maxRecDepth 100000

theorem zero105 (w : World) : (zeroValue 105).run Tryz.prog w = .ok (plc (0, 0)) w := by kernel_rfl
theorem WM.look {w : World} {m n : Nat} {f : Int → Option (Nat × Nat)} (h : WM w m n f) {x : Int} (hx : isI x) :
    (Instr.lookup 92 (.map (some m)) (.int .i64 x) true).run Tryz.prog w = .ok (.tuple #[plc ((f x).getD (0, 0)), .bool (f x).isSome]) w := by
  obtain ⟨g, h, q⟩ := h
  rw [h.look_ok Bp.lawI Tryz.underlying92 (zero105 w) (Bp.keyI hx), q x]
  cases f x <;> rfl
section
variable {P : Program} (w : World) {ops : Array Oper} {rest : List Oper} {o : Oper} {a : Act} {Q : Exit → Act → World → Prop}
/-- 'in, ok := m[k]' -/
theorem wpList_wm_look (hg : o.guard = none) (m x : Operand) (hop : o.op = Op.lookup 92 m x true) (b n : Nat) (f : Int → Option (Nat × Nat))
    (hm : a.eval m = .map (some b)) (hown : WM w b n f) (y : Int) (hx : a.eval x = .int .i64 y) (hy : isI y)
    (hK : wpList Tryz.prog ops Q rest (a.put o.dst (.tuple #[plc ((f y).getD (0, 0)), .bool (f y).isSome])) w) :
    wpList Tryz.prog ops Q (o :: rest) a w := by
  refine wpList_plain hg fun K' hK' => ?_
  have hrun := hown.look hy
  unfold Oper.wp
  simp [execOp, hop, hm, hx, hrun, Result.andThen]
  exact hK' _ _ hK
/-- 'm[k] = in' -/
theorem WM.store {w : World} {m n : Nat} {f : Int → Option (Nat × Nat)} (h : WM w m n f) (hn : n < maxLen) {x : Int} (hx : isI x) (v : Nat × Nat) :
    ∃ w', (Instr.mapUpdate 92 (.map (some m)) (.int .i64 x) (plc v)).run Tryz.prog w = .ok () w' ∧ WM w' m (n + 1) (fun y => if y = x then some v else f y) ∧ w.grownBy w' (some m) := by
  obtain ⟨g, h, q⟩ := h
  obtain ⟨w', hr, hv, hg⟩ := h.store Bp.lawI Tryz.underlying92 hn (Bp.keyI hx) (val := plc v)
  refine ⟨w', hr, ⟨_, hv, fun y => ?_⟩, hg⟩
  show _ = Option.map plc (if y = x then some v else f y)
  by_cases e : y = x
  · subst e
    rw [if_pos rfl, Bp.upd_same _ (Bp.lawI.key (Bp.keyI hx))]; rfl
  · rw [if_neg e, Bp.upd_other _ (fun q => e (by simpa using q)), q y]
end
section
variable {w : World} {γ : Nat → Tg} {h : Nat} {k : Value} {A : Ad} {H : Hs}
/-- Is it a closure's address? -/
def isC (H : Hs) (x : Int) : Bool := (H.wh x).isSome
theorem isc_any (q : Hm w γ h k A H) (x : Int) (hx : isI x) : Calls Tryz.prog 66 #[pt h, .int .i64 x] w fun e w' => e = .returned (.bool (isC H x)) ∧ Below w.heap.size w w' := by
  have c8 := q.cw
  have M := q.wh
  unfold isC
  have HH := Hid.mk hx
  generalize hf : H.wh = f at *
  clear q hf hx
  obtain ⟨y1, y2⟩ : ∃ y : Nat × Nat, y = (f x).getD (0, 0) := ⟨_, rfl⟩
  go_enter Tryz.func66, Tryz.ntmps66
  go_wp2_with (at_lookup; refine wpList_wm_look _ rfl _ _ rfl A.wm A.wn f rfl M x rfl HH.out ?_; rw [← y2])
  go_ret
  exact ⟨rfl, by go_grown⟩
def mayP (H : Hs) (x : Int) : Bool := decide (x = 0) || isC H x
theorem may_any (q : Hm w γ h k A H) (x : Int) (hx : isI x) : Calls Tryz.prog 118 #[pt h, .int .i64 x] w fun e w' => e = .returned (.bool (mayP H x)) ∧ Below w.heap.size w w' := by
  have C := isc_any q x hx
  clear q
  unfold mayP
  by_cases h0 : x = 0
  · subst h0
    go_enter Tryz.func118, Tryz.ntmps118
    go_wp2
    go_ret
    exact ⟨rfl, by go_grown⟩
  · have b0 : (x == 0) = false := by simpa using h0
    rw [decide_eq_false h0, Bool.false_or]
    go_enter Tryz.func118, Tryz.ntmps118
    go_wp2_with (go_at_call 66; refine C.mono ?_; rintro e w1 ⟨rfl, B1⟩)
    go_ret
    exact ⟨rfl, B1⟩
end
theorem moved_any (x : Int) (w : World) (h0 : 0 ≤ x) (h1 : x ≤ 18446744073709551615) :
    Calls Tryz.prog 122 #[.int .u64 x] w fun e w' => e = .returned (.tuple #[.int .i64 (if Wo.movedB x then x / 2 else 0), .bool (Wo.movedB x)]) ∧ w' = w := by
  by_cases q : x % 2 = 0 ∧ 2 ≤ x ∧ x ≤ 1048576
  · have e : Wo.movedB x = true := by simp [Wo.movedB, q]
    rw [e]; exact Wo.moved_yes x w q.1 q.2.1 q.2.2
  · have e : Wo.movedB x = false := by simp only [Wo.movedB, decide_eq_false_iff_not]; exact q
    rw [e]; exact Wo.moved_no x w h0 h1 q

/-! ### A collection that is under way -/
structure Wa where
  kb : Nat
  gv : Value
  gs : List Nat
  am : Nat
  an : Nat
  fv : Value
  tl : Nat
def ints (l : List Int) : List Value := l.map (Value.int .i64)
structure Km (w : World) (γ : Nat → Tg) (c : Cf) (p a : Nat) (B : Wa) (K : Wk) : Prop where
  box : w.heap[B.kb]? = some (.cells #[B.gv, .map (some B.am), B.fv, .int .i64 K.told, pt B.tl] 115 (0, 0))
  tag : γ B.kb = .kb
  row : w.ownsRow 0 100 1 B.gv B.gs.length (B.gs.map pt)
  rowT : ∀ k, B.gv.ownBlock = some k → γ k = .ko
  len : B.gs.length = K.old.length
  sps : ∀ i (hi : i < B.gs.length), SpM w γ p a B.gs[i] (K.old.getD i Bp.S0.none)
  nd : B.gs.Nodup
  fit : ∀ S ∈ K.old, Bp.Fit S (c.b * 64)
  av : WM w B.am B.an K.av
  avT : γ B.am = .ka
  fr : w.ownsRow 0 3 1 B.fv K.fresh.length (ints K.fresh)
  frT : ∀ k, B.fv.ownBlock = some k → γ k = .kf
  told : K.told ≤ K.fresh.length
  late : LiM true w γ B.tl c.g K.late
  dom : ∀ x g s, K.av x = some (g, s) → 1 ≤ x ∧ x < c.b * 64 ∧ g < c.g ∧ s < c.n g
/-- A heap in work. -/
structure Wm (w : World) (γ : Nat → Tg) (h : Nat) (A : Ad) (H : Hs) (B : Wa) (K : Wk) : Prop where
  hm : Hm w γ h (pt B.kb) A H
  km : Km w γ H.c A.p A.a B K
  ap : ∀ g s, g < H.c.g → s < H.c.n g → A.σ g s ∉ B.gs
section
variable {T : Tg → Prop} {w w' : World} {γ γ' : Nat → Tg} {c : Cf} {p a : Nat} {B : Wa} {K : Wk}
theorem Km.fr' (q : Km w γ c p a B K) (F : Fr T w w' γ γ') (t1 : ¬ T .kb) (t2 : ¬ T .ko) (t3 : ¬ T .ka) (t4 : ¬ T .kf) (t5 : ¬ T (.lb true)) (t6 : ¬ T (.lr true)) (t7 : ¬ T (.lm true)) (ts : ∀ s ∈ B.gs, ¬ T (.sb s) ∧ ¬ T (.sm s) ∧ ¬ T (.sr s)) : Km w' γ' c p a B K := {
  box := F.at_ q.box (by rw [q.tag]; exact t1)
  tag := F.tg (lt_of q.box) q.tag
  row := Bp.ownsRow_same q.row (fun k e => F.block k (q.row.lt k e).2 (by rw [q.rowT k e]; exact t2))
  rowT := fun k e => F.tg (q.row.lt k e).2 (q.rowT k e)
  len := q.len
  sps := fun i hi => by
    have t := ts _ (List.getElem_mem hi)
    exact (q.sps i hi).fr F t.1 t.2.1 t.2.2
  nd := q.nd
  fit := q.fit
  av := q.av.fr F (by rw [q.avT]; exact t3)
  avT := F.tg q.av.lt q.avT
  fr := Bp.ownsRow_same q.fr (fun k e => F.block k (q.fr.lt k e).2 (by rw [q.frT k e]; exact t4))
  frT := fun k e => F.tg (q.fr.lt k e).2 (q.frT k e)
  told := q.told
  late := q.late.fr F t5 t6 t7
  dom := q.dom }
theorem Wm.later {h : Nat} {A : Ad} {H : Hs} (q : Wm w γ h A H B K) (b : Below w.heap.size w w') : Wm w' γ h A H B K :=
  ⟨q.hm.later b, q.km.fr' (Fr.later (fun _ => False) γ b) id id id id id id id (fun _ _ => ⟨id, id, id⟩), q.ap⟩
end
section
variable {w : World} {γ : Nat → Tg} {h : Nat} {A : Ad} {H : Hs} {B : Wa} {K : Wk}
theorem aside_no {hv : Value} {g r k : Int} (S : Sg w hv g r k) (hk : k ≠ 0) (x : Int) : Calls Tryz.prog 67 #[hv, .int .i64 x] w fun e w' => e = .returned (.bool false) ∧ w' = w := by
  have G := S.work
  have b0 : (k != 0) = true := by simpa using hk
  clear S hk
  go_enter Tryz.func67, Tryz.ntmps67
  go_wp2_with (go_at_call 65; refine G.mono ?_; rintro e w1 ⟨rfl, hw⟩; rw [hw]; clear hw)
  go_ret
  exact ⟨rfl, rfl⟩
theorem moved_no {hv : Value} {g r k : Int} (S : Sg w hv g r k) (hk : k ≠ 0) (x : Int) : Calls Tryz.prog 68 #[hv, .int .i64 x] w fun e w' => e = .returned (.tuple #[.int .i64 0, .bool false]) ∧ w' = w := by
  have G := aside_no S hk x
  clear S hk
  go_enter Tryz.func68, Tryz.ntmps68
  go_wp2_with (go_at_call 67; refine G.mono ?_; rintro e w1 ⟨rfl, hw⟩; rw [hw]; clear hw)
  go_ret2
  exact ⟨rfl, rfl⟩
theorem aside_any (q : Wm w γ h A H B K) (x : Int) (hx : isI x) : Calls Tryz.prog 67 #[pt h, .int .i64 x] w fun e w' => e = .returned (.bool (K.av x).isSome) ∧ Below w.heap.size w w' := by
  have G := (sg_work q.hm).work
  have c10 := q.hm.ck
  have d1 : w.cell? ⟨B.kb, 1, none⟩ = some (.map (some B.am)) := by rw [Joins.cell_of_block q.km.box]; rfl
  have M := q.km.av
  have HH := Hid.mk hx
  generalize hf : K.av = f at *
  clear q hf hx
  obtain ⟨y1, y2⟩ : ∃ y : Nat × Nat, y = (f x).getD (0, 0) := ⟨_, rfl⟩
  go_enter Tryz.func67, Tryz.ntmps67
  go_wp2_with (first
    | (go_at_call 65; refine G.mono ?_; rintro e w1 ⟨rfl, hw⟩; rw [hw]; clear hw)
    | (at_lookup; refine wpList_wm_look _ rfl _ _ rfl B.am B.an f rfl M x rfl HH.out ?_; rw [← y2]))
  go_ret
  exact ⟨rfl, by go_grown⟩
/-- Where what was set aside went. -/
def mvd (H : Hs) (K : Wk) (x : Int) : Option Int := if (K.av x).isSome && Wo.movedB (Bp.Ar.readW H.xs x) then some (Bp.Ar.readW H.xs x / 2) else none
theorem moved_work (q : Wm w γ h A H B K) (x : Int) (hx : isI x) : Calls Tryz.prog 68 #[pt h, .int .i64 x] w fun e w' => e = .returned (.tuple #[.int .i64 ((mvd H K x).getD 0), .bool (mvd H K x).isSome]) ∧ Below w.heap.size w w' := by
  have G := aside_any q x hx
  have W := fun (W : World) (b : Below w.heap.size w W) => word_any (q.hm.later b) x
  have b := read_in q.hm.word x
  unfold mvd
  generalize Bp.Ar.readW H.xs x = y at *
  clear q
  cases hk : (K.av x).isSome with
  | false =>
    rw [hk] at G
    rw [Bool.false_and]
    clear hk W b
    go_enter Tryz.func68, Tryz.ntmps68
    go_wp2_with (go_at_call 67; refine G.mono ?_; rintro e w1 ⟨rfl, B1⟩)
    go_ret2
    exact ⟨rfl, B1⟩
  | true =>
    rw [hk] at G
    rw [Bool.true_and]
    have MV := fun W => moved_any y W b.1 b.2
    have e1 : ((if Wo.movedB y = true then some (y / 2) else none).getD 0) = (if Wo.movedB y then y / 2 else 0) := by split <;> rfl
    have e2 : (if Wo.movedB y = true then some (y / 2) else none).isSome = Wo.movedB y := by cases Wo.movedB y <;> rfl
    rw [e1, e2]
    generalize (if Wo.movedB y then y / 2 else 0) = z at *
    generalize Wo.movedB y = t at *
    clear hk b e1 e2
    go_enter Tryz.func68, Tryz.ntmps68
    go_wp2_with (first
      | (go_at_call 67; refine G.mono ?_; rintro e w1 ⟨rfl, B1⟩; have W1 := W _ B1; have HB := Hid.mk B1; clear W)
      | (go_at_call 57; refine W1.mono ?_; rintro e w2 ⟨rfl, hw⟩; rw [hw]; clear hw)
      | (go_at_call 122; refine (MV _).mono ?_; rintro e w2 ⟨rfl, hw⟩; rw [hw]; clear hw))
    go_ret2
    exact ⟨rfl, HB.out⟩
end
/-- What may be looked at: v. -/
def Vis (w : World) (hv : Value) (x : Int) (v : Bool) : Prop := Calls Tryz.prog 49 #[hv, .int .i64 x] w fun e w' => e = .returned (.bool v) ∧ Below w.heap.size w w'
theorem vis_rest {w : World} {γ : Nat → Tg} {h : Nat} {A : Ad} {H : Hs} (q : Hm w γ h (.pointer none) A H) (x : Int) (hx : isI x) : Vis w (pt h) x (isC H x) := by
  have S := sg_rest q
  have M := moved_no S (by decide) x
  have D := aside_no S (by decide) x
  have C := isc_any q x hx
  have D2 := fun (W : World) (b : Below w.heap.size w W) => aside_no (sg_rest (q.later b)) (by decide) x
  unfold Vis
  clear S q
  cases hc : isC H x with
  | true =>
    rw [hc] at C
    go_enter Tryz.func49, Tryz.ntmps49
    go_wp2_with (first
      | (go_at_call 68; refine M.mono ?_; rintro e w1 ⟨rfl, hw⟩; rw [hw]; clear hw)
      | (go_at_call 66; refine C.mono ?_; rintro e w1 ⟨rfl, B1⟩))
    go_ret
    exact ⟨rfl, B1⟩
  | false =>
    rw [hc] at C
    go_enter Tryz.func49, Tryz.ntmps49
    go_wp2_with (first
      | (go_at_call 68; refine M.mono ?_; rintro e w1 ⟨rfl, hw⟩; rw [hw]; clear hw)
      | (go_at_call 66; refine C.mono ?_; rintro e w1 ⟨rfl, B1⟩; have D1 := D2 _ B1; clear D D2)
      | (go_at_call 67; refine D1.mono ?_; rintro e w2 ⟨rfl, hw⟩; rw [hw]; clear hw))
    go_ret
    exact ⟨rfl, B1⟩
def visW (H : Hs) (K : Wk) (x : Int) : Bool := isC H x || ((K.av x).isSome && !(mvd H K x).isSome)
theorem vis_work {w : World} {γ : Nat → Tg} {h : Nat} {A : Ad} {H : Hs} {B : Wa} {K : Wk} (q : Wm w γ h A H B K) (x : Int) (hx : isI x) : Vis w (pt h) x (visW H K x) := by
  have M := moved_work q x hx
  have C := fun (W : World) (b : Below w.heap.size w W) => isc_any (q.later b).hm x hx
  have D := fun (W : World) (b : Below w.heap.size w W) => aside_any (q.later b) x hx
  unfold Vis visW
  clear q
  generalize (mvd H K x).getD 0 = z at *
  generalize (mvd H K x).isSome = y at *
  cases hc : isC H x with
  | true =>
    rw [hc] at C
    rw [Bool.true_or]
    clear D
    go_enter Tryz.func49, Tryz.ntmps49
    go_wp2_with (first
      | (go_at_call 68; refine M.mono ?_; rintro e w1 ⟨rfl, B1⟩; have C1 := C _ B1; have HB := Hid.mk B1; clear C M)
      | (go_at_call 66; refine C1.mono ?_; rintro e w2 ⟨rfl, B2⟩))
    go_ret
    exact ⟨rfl, HB.out.trans (B2.mono HB.out.size)⟩
  | false =>
    rw [hc] at C
    rw [Bool.false_or]
    cases hd : (K.av x).isSome with
    | false =>
      rw [hd] at D
      rw [Bool.false_and]
      go_enter Tryz.func49, Tryz.ntmps49
      go_wp2_with (first
        | (go_at_call 68; refine M.mono ?_; rintro e w1 ⟨rfl, B1⟩; have C1 := C _ B1; have HB := Hid.mk B1; clear C M)
        | (go_at_call 66; refine C1.mono ?_; rintro e w2 ⟨rfl, B2⟩; have HB2 := Hid.mk (HB.out.trans (B2.mono HB.out.size)); have D1 := D _ HB2.out; clear D B2)
        | (go_at_call 67; refine D1.mono ?_; rintro e w3 ⟨rfl, B3⟩))
      go_ret
      exact ⟨rfl, HB2.out.trans (B3.mono HB2.out.size)⟩
    | true =>
      rw [hd] at D
      rw [Bool.true_and]
      go_enter Tryz.func49, Tryz.ntmps49
      go_wp2_with (first
        | (go_at_call 68; refine M.mono ?_; rintro e w1 ⟨rfl, B1⟩; have C1 := C _ B1; have HB := Hid.mk B1; clear C M)
        | (go_at_call 66; refine C1.mono ?_; rintro e w2 ⟨rfl, B2⟩; have HB2 := Hid.mk (HB.out.trans (B2.mono HB.out.size)); have D1 := D _ HB2.out; clear D B2)
        | (go_at_call 67; refine D1.mono ?_; rintro e w3 ⟨rfl, B3⟩))
      go_ret
      exact ⟨rfl, HB2.out.trans (B3.mono HB2.out.size)⟩
end Go.Proofs.YtbdoekffadmejaaGreatDoor
