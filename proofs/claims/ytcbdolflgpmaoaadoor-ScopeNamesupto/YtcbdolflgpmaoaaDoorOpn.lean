/- A program that came in, opened: its tree, whose numbers are of 64 bits, and which weighs no more than what was read. -/
import Derived.Test.YtcbdolflgpmaoaaDoorLaid
import Derived.Test.YtcbdolflgpmaoaaDoorWt
import Derived.Test.YtcbdolflgpmaoaaDoorPv
import Derived.OpenShut
import Derived.ChangeOld
import Derived.Deep.Slices
namespace Go.Proofs.YtcbdolflgpmaoaaDoor
open Go.ChangeShapes Go.WideShapes Go.ChangeAt Go.RowKit
set_option linter.unusedVariables false
set_option linter.unusedSimpArgs false
set_option maxRecDepth 100000

theorem blk_one {H : Type} (d : DataW H) : 1 ≤ Rows.uptoBulk d := by
  cases d with
  | lit l => cases l <;> simp [Rows.uptoBulk]
  | nil => simp [Rows.uptoBulk]
  | ptr d => simp [Rows.uptoBulk]
  | slice a b => simp [Rows.uptoBulk]
  | agg p => simp [Rows.uptoBulk]
  | iface t d => simp [Rows.uptoBulk]
  | map e => simp [Rows.uptoBulk]
  | held h => simp [Rows.uptoBulk]
theorem blk_app {H : Type} : ∀ l r : List (DataW H), Rows.uptoBulkAll (l ++ r) = Rows.uptoBulkAll l + Rows.uptoBulkAll r
  | [], r => by simp [Rows.uptoBulkAll]
  | x :: l, r => by simp only [List.cons_append, Rows.uptoBulkAll, blk_app l r]; omega
theorem blk_mem {H : Type} {d : DataW H} : ∀ {l : List (DataW H)}, d ∈ l → Rows.uptoBulk d ≤ Rows.uptoBulkAll l
  | [], h => by cases h
  | x :: r, h => by
    simp only [Rows.uptoBulkAll]
    rcases List.mem_cons.1 h with e | e
    · rw [e]; omega
    · have := blk_mem e; omega
theorem bounds64 {a : Int} (h : (Lit.int .i64 a).wf = true) : In64 a := by simpa [In64, Lit.wf, IntKind.min, IntKind.max, IntKind.signed, IntKind.bits] using h
/-- items one behind the other -/
def RowsOf {α : Type} (R : α → List Value → Prop) : List α → List Value → Prop
  | [], c => c = []
  | x :: r, c => ∃ c1 c2, c = c1 ++ c2 ∧ R x c1 ∧ RowsOf R r c2
theorem rows_snoc {α : Type} {R : α → List Value → Prop} : ∀ (l : List α) (c : List Value) (x : α) (d : List Value), RowsOf R l c → R x d → RowsOf R (l ++ [x]) (c ++ d)
  | [], c, x, d, h, hx => by simp only [RowsOf] at h; subst h; exact ⟨d, [], by simp, hx, rfl⟩
  | y :: l, c, x, d, h, hx => by
    obtain ⟨c1, c2, rfl, h1, h2⟩ := h
    exact ⟨c1, c2 ++ d, by simp, h1, rows_snoc l c2 x d h2 hx⟩
def sumW {α : Type} (W : α → Nat) : List α → Nat
  | [] => 0
  | x :: r => W x + sumW W r
theorem sumW_app {α : Type} (W : α → Nat) : ∀ a b : List α, sumW W (a ++ b) = sumW W a + sumW W b
  | [], b => by simp [sumW]
  | x :: a, b => by simp only [List.cons_append, sumW, sumW_app W a b]; omega
theorem flat_len (f : Nat → List Value) (sz : Nat) : ∀ n, (∀ i, i < n → (f i).length = sz) → ((List.range n).flatMap f).length = n * sz
  | 0, _ => by simp
  | n + 1, h => by
    rw [List.range_succ, List.flatMap_append, List.length_append, flat_len f sz n (fun i hi => h i (by omega))]
    simp [h n (by omega), Nat.add_mul]
theorem flat_get (f : Nat → List Value) (sz : Nat) (hz : 0 < sz) : ∀ n, (∀ i, i < n → (f i).length = sz) → ∀ j u, ((List.range n).flatMap f)[j]? = some u → ∃ i r, i < n ∧ r < sz ∧ j = i * sz + r ∧ (f i)[r]? = some u
  | 0, _, j, u, hj => by simp at hj
  | n + 1, h, j, u, hj => by
    have hl := flat_len f sz n (fun i hi => h i (by omega))
    rw [List.range_succ, List.flatMap_append] at hj
    by_cases hlt : j < n * sz
    · rw [List.getElem?_append_left (by omega)] at hj
      obtain ⟨i, r, a, b, c, d⟩ := flat_get f sz hz n (fun i hi => h i (by omega)) j u hj
      exact ⟨i, r, by omega, b, c, d⟩
    · rw [List.getElem?_append_right (by omega), hl] at hj
      simp only [List.flatMap_cons, List.flatMap_nil, List.append_nil] at hj
      have hr := (List.getElem?_eq_some_iff.1 hj).1
      rw [h n (by omega)] at hr
      exact ⟨n, j - n * sz, by omega, hr, by omega, hj⟩
theorem add_spot (B O k : Nat) : (⟨B, O, none⟩ : Addr).add k = ⟨B, O + k, none⟩ := by unfold Addr.add; split <;> simp_all
section
variable {H : Type} {enc : TypeId × Value → H} {w : World} {spare : Nat → Bool} {held : Bool}
theorem open_rows {α : Type} [Inhabited α] {tS e : TypeId} {sz : Nat} (hS : Tryd.prog.underlying tS = some (.slice e)) (hc : Tryd.prog.cellsOf e = sz) (hz : 0 < sz) (R : α → List Value → Prop) (Fn : α → Prop) (W : α → Nat) (N : Nat) (hN : N ≤ 1048576)
    (elem : ∀ fuel cs x, DataW.trod enc Tryd.prog w 0 spare held fuel e cs = some x → Rows.uptoBulk x.1 ≤ N → ∃ y, R y cs ∧ Fn y ∧ W y ≤ Rows.uptoBulk x.1) {fuel : Nat} {cs : List Value} {x : DataW H × List MemPlace}
    (h : DataW.trod enc Tryd.prog w 0 spare held fuel tS cs = some x) (hb : Rows.uptoBulk x.1 ≤ N + 1) :
    ∃ (l : List α) (xs : List Value) (v : Value), cs = [v] ∧ IsRow w (fun g => g < w.heap.size) xs l.length v ∧ RowsOf R l xs ∧ (∀ y ∈ l, Fn y) ∧ sumW W l + 1 ≤ Rows.uptoBulk x.1 := by
  rcases Deep.open_slice hS h with ⟨rfl, rfl⟩ | ⟨a, len, cap, m, n, D, Pl, rfl, _, hl, hm, hmm, rfl, hx⟩
  · exact ⟨[], [], _, rfl, ⟨none, 0, rfl, ⟨Nat.le_refl _, by simp⟩, fun q => absurd q (Nat.lt_irrefl _)⟩, rfl, fun y hy => (by cases hy), by simp [sumW, Rows.uptoBulk]⟩
  · rw [hc] at hx
    have hlm : len ≤ m := by rw [hmm]; split <;> omega
    simp only [Rows.uptoBulk] at hb ⊢
    have hD : ∀ i, i < len → Rows.uptoBulk (D i) ≤ Rows.uptoBulkAll ((List.range len).map D) := fun i hi => blk_mem (List.mem_map.2 ⟨i, List.mem_range.2 hi, rfl⟩)
    have inh : Inhabited (α × List Value) := ⟨⟨default, []⟩⟩
    obtain ⟨T, hT⟩ := Deep.choose_lt (α := α × List Value) (n := len) (p := fun i t => w.cells? 0 (a.add (i * sz)) sz = some t.2 ∧ R t.1 t.2 ∧ Fn t.1 ∧ W t.1 ≤ Rows.uptoBulk (D i)) (fun i hi => by
      obtain ⟨cs', h1, h2⟩ := hx i (by omega)
      obtain ⟨y, q1, q2, q3⟩ := elem n cs' _ h2 (by show Rows.uptoBulk (D i) ≤ N; have := hD i hi; omega)
      exact ⟨(y, cs'), h1, q1, q2, q3⟩)
    have hlen : ∀ i, i < len → (T i).2.length = sz := fun i hi => (World.cells?_some (hT i hi).1).2.1
    have hlb : len ≤ Rows.uptoBulkAll ((List.range len).map D) := by
      have : ∀ l : List (DataW H), l.length ≤ Rows.uptoBulkAll l := fun l => by
        induction l with
        | nil => simp
        | cons x r ih => have := blk_one x; simp only [Rows.uptoBulkAll, List.length_cons]; omega
      simpa using this ((List.range len).map D)
    refine ⟨(List.range len).map fun i => (T i).1, (List.range len).flatMap fun i => (T i).2, _, rfl, ?_, ?_, fun y hy => ?_, ?_⟩
    · rw [List.length_map, List.length_range]
      refine ⟨some a, cap, rfl, ⟨hl, by omega⟩, fun hq => ?_⟩
      obtain ⟨B, O, spot⟩ := a
      have hs : spot = none := by
        obtain ⟨_, _, hcell⟩ := World.cells?_some (hT 0 hq).1
        have q := hcell 0 hz
        have q2 : (T 0).2[0]? = some ((T 0).2[0]'(by rw [hlen 0 hq]; exact hz)) := List.getElem?_eq_getElem _
        rw [q2] at q
        simp [Addr.add] at q
        simpa using World.cell?_spot q
      subst hs
      have cellsI : ∀ i r u, i < len → r < sz → (T i).2[r]? = some u → w.cell? ⟨B, O + (i * sz + r), none⟩ = some u := fun i r u hi hr hu => by
        obtain ⟨_, _, hcell⟩ := World.cells?_some (hT i hi).1
        have q := hcell r hr
        rw [add_spot, add_spot, hu, Nat.add_assoc] at q
        exact q
      refine ⟨B, O, rfl, ?_, fun j u hj => ?_⟩
      · have q2 : (T 0).2[0]? = some ((T 0).2[0]'(by rw [hlen 0 hq]; exact hz)) := List.getElem?_eq_getElem _
        exact World.block_lt_of_cell? _ _ (cellsI 0 0 _ hq hz q2)
      · obtain ⟨i, r, hi, hr, rfl, hu⟩ := flat_get _ sz hz len hlen j u hj
        exact cellsI i r u hi hr hu
    · have : ∀ n, n ≤ len → RowsOf R ((List.range n).map fun i => (T i).1) ((List.range n).flatMap fun i => (T i).2) := fun n => by
        induction n with
        | zero => intro _; simp [RowsOf]
        | succ n ih =>
          intro hn
          rw [List.range_succ, List.map_append, List.flatMap_append]
          have := rows_snoc _ _ (T n).1 (T n).2 (ih (by omega)) (hT n (by omega)).2.1
          simpa using this
      exact this len (Nat.le_refl _)
    · obtain ⟨i, hi, rfl⟩ := List.mem_map.1 hy
      exact (hT i (List.mem_range.1 hi)).2.2.1
    · have : ∀ n, n ≤ len → sumW W ((List.range n).map fun i => (T i).1) ≤ Rows.uptoBulkAll ((List.range n).map D) := fun n => by
        induction n with
        | zero => intro _; simp [sumW, Rows.uptoBulkAll]
        | succ n ih =>
          intro hn
          rw [List.range_succ, List.map_append, List.map_append, sumW_app, blk_app]
          have a := ih (by omega)
          have b := (hT n (by omega)).2.2.2
          simp only [List.map_cons, List.map_nil, sumW, Rows.uptoBulkAll]
          omega
      have := this len (Nat.le_refl _)
      omega
theorem open_strs (N : Nat) (hN : N ≤ 1048576) {fuel : Nat} {cs : List Value} {x : DataW H × List MemPlace} (h : DataW.trod enc Tryd.prog w 0 spare held fuel 38 cs = some x) (hb : Rows.uptoBulk x.1 ≤ N + 1) :
    ∃ (l : List (List UInt8)) (v : Value), cs = [v] ∧ IsRow w (fun g => g < w.heap.size) (strC l) l.length v ∧ wtN l + 1 ≤ Rows.uptoBulk x.1 := by
  obtain ⟨l, xs, v, e, h1, h2, _, h4⟩ := open_rows Tryd.underlying38 (sz := 1) (by kernel_rfl) (by decide) (fun (s : List UInt8) c => c = [.string (str s)]) (fun _ => True) (fun s => 1 + s.length) N hN (fun fuel cs x hh _ => by
    obtain ⟨s, rfl, rfl, _⟩ := DataW.trod_string Tryd.underlying9 hh
    exact ⟨s.data.toList, by rw [← str_eq (s := s) rfl], trivial, by simp [Rows.uptoBulk]; omega⟩) h hb
  have hxs : ∀ (l : List (List UInt8)) xs, RowsOf (fun (s : List UInt8) c => c = [.string (str s)]) l xs → xs = strC l := fun l => by
    induction l with
    | nil => intro xs q; exact q
    | cons s r ih => intro xs q; obtain ⟨c1, c2, rfl, rfl, q2⟩ := q; rw [ih c2 q2]; simp [strC]
  have hw : ∀ l : List (List UInt8), sumW (fun s => 1 + s.length) l = wtN l := fun l => by
    induction l with
    | nil => rfl
    | cons s r ih => simp only [sumW, wtN, ih]
  rw [hxs l xs h2] at h1
  rw [hw] at h4
  exact ⟨l, v, e, h1, h4⟩
theorem open_atoms (N : Nat) (hN : N ≤ 1048576) {fuel : Nat} {cs : List Value} {x : DataW H × List MemPlace} (h : DataW.trod enc Tryd.prog w 0 spare held fuel 41 cs = some x) (hb : Rows.uptoBulk x.1 ≤ N + 1) :
    ∃ (l : List Atm) (v : Value), cs = [v] ∧ IsRow w (fun g => g < w.heap.size) (atmC l) l.length v ∧ (∀ a ∈ l, In64 a.num) ∧ wtT l + 1 ≤ Rows.uptoBulk x.1 := by
  have inh : Inhabited Atm := ⟨⟨[], 0⟩⟩
  obtain ⟨l, xs, v, e, h1, h2, h3, h4⟩ := open_rows Tryd.underlying41 (sz := 2) (by kernel_rfl) (by decide) (fun (a : Atm) c => c = [.string (str a.name), .int .i64 a.num]) (fun a => In64 a.num) (fun a => 1 + a.name.length) N hN (fun fuel cs x hh _ => by
    obtain ⟨xs, n, _, rfl, hl, hlen, hf⟩ := DataW.trod_struct Tryd.underlying40 hh
    have c105 : Tryd.prog.cellsOf 40 = 2 := by kernel_rfl
    have c2 : Tryd.prog.cellsOf 2 = 1 := by kernel_rfl
    have c9 : Tryd.prog.cellsOf 9 = 1 := by kernel_rfl
    rw [c105] at hl
    match cs, hl, xs, hlen with
    | [v0, v1], _, [x0, x1], _ =>
      have f0 := hf 0 _ rfl
      have f1 := hf 1 _ rfl
      simp [c2, c9] at f0 f1
      obtain ⟨s, e0, y0, _⟩ := DataW.trod_string Tryd.underlying9 f0
      obtain ⟨k, e1, y1, w1⟩ := DataW.trod_int Tryd.underlying2 f1
      simp only [List.cons.injEq, and_true] at e0 e1
      subst e0 e1
      exact ⟨⟨s.data.toList, k⟩, by simp only [← str_eq (s := s) rfl], bounds64 w1, by simp [y0, y1, Rows.uptoBulk, Rows.uptoBulkAll]; omega⟩) h hb
  have hxs : ∀ (l : List Atm) xs, RowsOf (fun (a : Atm) c => c = [.string (str a.name), .int .i64 a.num]) l xs → xs = atmC l := fun l => by
    induction l with
    | nil => intro xs q; exact q
    | cons s r ih => intro xs q; obtain ⟨c1, c2, rfl, rfl, q2⟩ := q; rw [ih c2 q2]; simp [atmC]
  have hw : ∀ l : List Atm, sumW (fun a => 1 + a.name.length) l = wtT l := fun l => by
    induction l with
    | nil => rfl
    | cons s r ih => simp only [sumW, wtT, ih]
  rw [hxs l xs h2] at h1
  rw [hw] at h4
  exact ⟨l, v, e, h1, h3, h4⟩
theorem rows_E {ok : Nat → Prop} : ∀ (l : List E) xs, RowsOf (isE w ok) l xs → isEs w ok l xs
  | [], xs, h => by simp only [isEs]; exact h
  | x :: r, xs, ⟨c1, c2, e, h1, h2⟩ => by simp only [isEs]; exact ⟨c1, c2, e, h1, rows_E r c2 h2⟩
theorem rows_B {ok : Nat → Prop} : ∀ (l : List B) xs, RowsOf (isB w ok) l xs → isBs w ok l xs
  | [], xs, h => by simp only [isBs]; exact h
  | x :: r, xs, ⟨c1, c2, e, h1, h2⟩ => by simp only [isBs]; exact ⟨c1, c2, e, h1, rows_B r c2 h2⟩
theorem rows_A {ok : Nat → Prop} : ∀ (l : List A) xs, RowsOf (isA w ok) l xs → isAs w ok l xs
  | [], xs, h => by simp only [isAs]; exact h
  | x :: r, xs, ⟨c1, c2, e, h1, h2⟩ => by simp only [isAs]; exact ⟨c1, c2, e, h1, rows_A r c2 h2⟩
theorem sum_E : ∀ l : List E, sumW wtE l = wtEs l
  | [] => by simp [sumW, wtEs]
  | x :: r => by simp only [sumW, wtEs, sum_E r]
theorem sum_B : ∀ l : List B, sumW wtB l = wtBs l
  | [] => by simp [sumW, wtBs]
  | x :: r => by simp only [sumW, wtBs, sum_B r]
theorem sum_A : ∀ l : List A, sumW wtA l = wtAs l
  | [] => by simp [sumW, wtAs]
  | x :: r => by simp only [sumW, wtAs, sum_A r]
theorem fin_E : ∀ l : List E, (∀ x ∈ l, finE x) → finEs l
  | [], _ => by simp only [finEs]
  | x :: r, h => by simp only [finEs]; exact ⟨h x (List.mem_cons_self ..), fin_E r (fun y hy => h y (List.mem_cons_of_mem _ hy))⟩
theorem fin_B : ∀ l : List B, (∀ x ∈ l, finB x) → finBs l
  | [], _ => by simp only [finBs]
  | x :: r, h => by simp only [finBs]; exact ⟨h x (List.mem_cons_self ..), fin_B r (fun y hy => h y (List.mem_cons_of_mem _ hy))⟩
theorem fin_A : ∀ l : List A, (∀ x ∈ l, finA x) → finAs l
  | [], _ => by simp only [finAs]
  | x :: r, h => by simp only [finAs]; exact ⟨h x (List.mem_cons_self ..), fin_A r (fun y hy => h y (List.mem_cons_of_mem _ hy))⟩
/-- an expression that weighs so much is opened -/
def OpE (enc : TypeId × Value → H) (w : World) (spare : Nat → Bool) (held : Bool) (N : Nat) : Prop := ∀ fuel cs (x : DataW H × List MemPlace), DataW.trod enc Tryd.prog w 0 spare held fuel 45 cs = some x → Rows.uptoBulk x.1 ≤ N →
    ∃ y : E, isE w (fun g => g < w.heap.size) y cs ∧ finE y ∧ wtE y + 5 ≤ Rows.uptoBulk x.1
theorem cE : Tryd.prog.cellsOf 45 = 8 := by kernel_rfl
theorem cB : Tryd.prog.cellsOf 49 = 11 := by kernel_rfl
theorem cA : Tryd.prog.cellsOf 92 = 13 := by kernel_rfl
theorem cF : Tryd.prog.cellsOf 47 = 9 := by kernel_rfl
theorem c1s : Tryd.prog.cellsOf 2 = 1 ∧ Tryd.prog.cellsOf 3 = 1 ∧ Tryd.prog.cellsOf 9 = 1 ∧ Tryd.prog.cellsOf 38 = 1 ∧ Tryd.prog.cellsOf 41 = 1 ∧ Tryd.prog.cellsOf 23 = 1 ∧ Tryd.prog.cellsOf 42 = 1 ∧ Tryd.prog.cellsOf 43 = 1 := ⟨by kernel_rfl, by kernel_rfl, by kernel_rfl, by kernel_rfl, by kernel_rfl, by kernel_rfl, by kernel_rfl, by kernel_rfl⟩
theorem open_bind {N : Nat} (hN : N ≤ 1048576) (hE : OpE enc w spare held N) (fuel : Nat) (cs : List Value) (x : DataW H × List MemPlace) (h : DataW.trod enc Tryd.prog w 0 spare held fuel 49 cs = some x) (hb : Rows.uptoBulk x.1 ≤ N) :
    ∃ y : B, isB w (fun g => g < w.heap.size) y cs ∧ finB y ∧ wtB y ≤ Rows.uptoBulk x.1 := by
  obtain ⟨xs, n, _, rfl, hl, hlen, hf⟩ := DataW.trod_struct Tryd.underlying49 h
  obtain ⟨q2, q3, q9, qs, _, _, _, _⟩ := c1s
  rw [cB] at hl
  match cs, hl, xs, hlen with
  | [v0, v1, v2, v3, v4, v5, v6, v7, v8, v9, v10], _, [x0, x1, x2], _ =>
    have f0 := hf 0 _ rfl
    have f1 := hf 1 _ rfl
    have f2 := hf 2 _ rfl
    simp [q3, q9, cF] at f0 f1 f2
    obtain ⟨s, e0, y0, _⟩ := DataW.trod_string Tryd.underlying9 f0
    obtain ⟨k, e1, y1, w1⟩ := DataW.trod_int Tryd.underlying3 f1
    obtain ⟨zs, m, _, rfl, hl2, hlen2, hf2⟩ := DataW.trod_struct Tryd.underlying47 f2
    match zs, hlen2 with
    | [z0, z1], _ =>
      have g0 := hf2 0 _ rfl
      have g1 := hf2 1 _ rfl
      simp [qs, cE] at g0 g1
      simp only [List.cons.injEq, and_true] at e0 e1
      subst e0 e1
      subst y0 y1
      simp only [List.map_cons, List.map_nil, Rows.uptoBulk, Rows.uptoBulkAll] at hb ⊢
      obtain ⟨l, v, ev, r1, r2⟩ := open_strs N hN g0 (by omega)
      obtain ⟨y, i1, i2, i3⟩ := hE _ _ _ g1 (by omega)
      simp only [List.cons.injEq, and_true] at ev
      subst ev
      refine ⟨.mk s.data.toList k l y, ?_, by simp only [finB]; exact i2, ?_⟩
      · simp only [isB]
        exact ⟨_, _, by rw [← str_eq (s := s) rfl]; rfl, r1, i1⟩
      · simp only [wtB]
        omega
theorem open_alt {N : Nat} (hN : N ≤ 1048576) (hE : OpE enc w spare held N) (fuel : Nat) (cs : List Value) (x : DataW H × List MemPlace) (h : DataW.trod enc Tryd.prog w 0 spare held fuel 92 cs = some x) (hb : Rows.uptoBulk x.1 ≤ N) :
    ∃ y : A, isA w (fun g => g < w.heap.size) y cs ∧ finA y ∧ wtA y ≤ Rows.uptoBulk x.1 := by
  obtain ⟨xs, n, _, rfl, hl, hlen, hf⟩ := DataW.trod_struct Tryd.underlying92 h
  obtain ⟨q2, q3, q9, qs, _, _, _, _⟩ := c1s
  rw [cA] at hl
  match cs, hl, xs, hlen with
  | [v0, v1, v2, v3, v4, v5, v6, v7, v8, v9, v10, v11, v12], _, [x0, x1, x2, x3, x4, x5], _ =>
    have f0 := hf 0 _ rfl
    have f1 := hf 1 _ rfl
    have f2 := hf 2 _ rfl
    have f3 := hf 3 _ rfl
    have f4 := hf 4 _ rfl
    have f5 := hf 5 _ rfl
    simp [q2, q3, q9, qs, cE] at f0 f1 f2 f3 f4 f5
    obtain ⟨k0, e0, y0, w0⟩ := DataW.trod_int Tryd.underlying3 f0
    obtain ⟨k1, e1, y1, w1⟩ := DataW.trod_int Tryd.underlying3 f1
    obtain ⟨s, e2, y2, _⟩ := DataW.trod_string Tryd.underlying9 f2
    obtain ⟨k3, e3, y3, w3⟩ := DataW.trod_int Tryd.underlying2 f3
    simp only [List.cons.injEq, and_true] at e0 e1 e2 e3
    subst e0 e1 e2 e3
    subst y0 y1 y2 y3
    simp only [List.map_cons, List.map_nil, Rows.uptoBulk, Rows.uptoBulkAll] at hb ⊢
    obtain ⟨l, v, ev, r1, r2⟩ := open_strs N hN f4 (by omega)
    obtain ⟨y, i1, i2, i3⟩ := hE _ _ _ f5 (by omega)
    simp only [List.cons.injEq, and_true] at ev
    subst ev
    refine ⟨.mk k0 k1 s.data.toList k3 l y, ?_, by simp only [finA]; exact ⟨bounds64 w0, bounds64 w3, i2⟩, ?_⟩
    · simp only [isA]
      exact ⟨_, _, by rw [← str_eq (s := s) rfl]; rfl, r1, i1⟩
    · simp only [wtA]
      omega
theorem open_exp : ∀ N, N ≤ 1048576 → OpE enc w spare held N
  | 0, _ => fun fuel cs x h hb => by have := blk_one x.1; omega
  | N + 1, hN => fun fuel cs x h hb => by
    have ih := open_exp N (by omega)
    obtain ⟨xs, n, _, rfl, hl, hlen, hf⟩ := DataW.trod_struct Tryd.underlying45 h
    obtain ⟨q2, q3, q9, qs, qt, qb, qe, qa⟩ := c1s
    rw [cE] at hl
    match cs, hl, xs, hlen with
    | [v0, v1, v2, v3, v4, v5, v6, v7], _, [x0, x1, x2, x3, x4, x5, x6, x7], _ =>
      have f0 := hf 0 _ rfl
      have f1 := hf 1 _ rfl
      have f2 := hf 2 _ rfl
      have f3 := hf 3 _ rfl
      have f4 := hf 4 _ rfl
      have f5 := hf 5 _ rfl
      have f6 := hf 6 _ rfl
      have f7 := hf 7 _ rfl
      simp [q2, q3, q9, qt, qb, qe, qa] at f0 f1 f2 f3 f4 f5 f6 f7
      obtain ⟨k0, e0, y0, w0⟩ := DataW.trod_int Tryd.underlying3 f0
      obtain ⟨k1, e1, y1, w1⟩ := DataW.trod_int Tryd.underlying3 f1
      obtain ⟨s, e2, y2, _⟩ := DataW.trod_string Tryd.underlying9 f2
      obtain ⟨k3, e3, y3, w3⟩ := DataW.trod_int Tryd.underlying2 f3
      simp only [List.cons.injEq, and_true] at e0 e1 e2 e3
      subst e0 e1 e2 e3
      subst y0 y1 y2 y3
      simp only [List.map_cons, List.map_nil, Rows.uptoBulk, Rows.uptoBulkAll] at hb ⊢
      have inE : Inhabited E := ⟨.mk 0 0 [] 0 [] [] [] []⟩
      have inB : Inhabited B := ⟨.mk [] 0 [] default⟩
      have inA : Inhabited A := ⟨.mk 0 0 [] 0 [] default⟩
      obtain ⟨l4, u4, ev4, r4, t4, s4⟩ := open_atoms N (by omega) f4 (by omega)
      obtain ⟨l5, xs5, u5, ev5, r5, p5, t5, s5⟩ := open_rows Tryd.underlying23 cB (by decide) (isB w (fun g => g < w.heap.size)) finB wtB N (by omega) (open_bind (by omega) ih) f5 (by omega)
      obtain ⟨l6, xs6, u6, ev6, r6, p6, t6, s6⟩ := open_rows Tryd.underlying42 cE (by decide) (isE w (fun g => g < w.heap.size)) finE wtE N (by omega) (fun fuel cs x a b => by obtain ⟨y, i1, i2, i3⟩ := ih fuel cs x a b; exact ⟨y, i1, i2, by omega⟩) f6 (by omega)
      obtain ⟨l7, xs7, u7, ev7, r7, p7, t7, s7⟩ := open_rows Tryd.underlying43 cA (by decide) (isA w (fun g => g < w.heap.size)) finA wtA N (by omega) (open_alt (by omega) ih) f7 (by omega)
      simp only [List.cons.injEq, and_true] at ev4 ev5 ev6 ev7
      subst ev4 ev5 ev6 ev7
      rw [sum_B] at s5
      rw [sum_E] at s6
      rw [sum_A] at s7
      refine ⟨.mk k0 k1 s.data.toList k3 l4 l5 l6 l7, ?_, ?_, ?_⟩
      · simp only [isE]
        exact ⟨_, _, _, _, xs5, xs6, xs7, by rw [← str_eq (s := s) rfl], r4, r5, rows_B _ _ p5, r6, rows_E _ _ p6, r7, rows_A _ _ p7⟩
      · simp only [finE]
        exact ⟨bounds64 w3, t4, fin_B _ t5, fin_E _ t6, fin_A _ t7⟩
      · simp only [wtE]
        omega
theorem open_prog {v : Value} {d : DataW H} {p : List MemPlace} (h : DataW.Trod enc Tryd.prog w 0 spare held 25 v d p) (hb : Rows.uptoBulk d ≤ 1048576) : ∃ q : Pg, isPV w (fun g => g < w.heap.size) q v ∧ finP q ∧ wtP q ≤ 1048576 := by
  obtain ⟨fuel, hf0⟩ := h
  obtain ⟨xs, n, _, ex, hl, hlen, hf⟩ := DataW.trod_struct Tryd.underlying25 hf0
  have c0 : Tryd.prog.cellsOf 25 = 2 := by kernel_rfl
  have c1 : Tryd.prog.cellsOf 22 = 1 := by kernel_rfl
  have cD : Tryd.prog.cellsOf 58 = 3 := by kernel_rfl
  obtain ⟨q2, q3, q9, qs, qt, qb, qe, qa⟩ := c1s
  have ed : d = .agg (xs.map (·.1)) := congrArg Prod.fst ex
  subst ed
  rw [c0] at hl
  cases v with
  | agg cs =>
    simp only [Value.cells] at hl hf
    obtain ⟨cl⟩ := cs
    simp only at hl hf
    match cl, hl, xs, hlen with
    | [v0, v1], _, [x0, x1], _ =>
      have f0 := hf 0 _ rfl
      have f1 := hf 1 _ rfl
      simp [c1, qb] at f0 f1
      simp only [List.map_cons, List.map_nil, Rows.uptoBulk, Rows.uptoBulkAll] at hb
      have inE : Inhabited E := ⟨.mk 0 0 [] 0 [] [] [] []⟩
      have inB : Inhabited B := ⟨.mk [] 0 [] default⟩
      have inD : Inhabited D := ⟨⟨[], 0, 0⟩⟩
      obtain ⟨l0, xs0, u0, ev0, r0, p0, t0, s0⟩ := open_rows Tryd.underlying22 cD (by decide) (fun (y : D) c => c = [.string (str y.name), .int .i64 y.arity, .int .i64 y.at']) (fun y => In64 y.arity) wtD 1048575 (by decide) (fun fuel cs x hh _ => by
        obtain ⟨xs, n, _, rfl, hl, hlen, hf⟩ := DataW.trod_struct Tryd.underlying58 hh
        rw [cD] at hl
        match cs, hl, xs, hlen with
        | [v0, v1, v2], _, [x0, x1, x2], _ =>
          have f0 := hf 0 _ rfl
          have f1 := hf 1 _ rfl
          have f2 := hf 2 _ rfl
          simp [q3, q9] at f0 f1 f2
          obtain ⟨s, e0, y0, _⟩ := DataW.trod_string Tryd.underlying9 f0
          obtain ⟨k, e1, y1, w1⟩ := DataW.trod_int Tryd.underlying3 f1
          obtain ⟨k2, e2, y2, w2⟩ := DataW.trod_int Tryd.underlying3 f2
          simp only [List.cons.injEq, and_true] at e0 e1 e2
          subst e0 e1 e2
          exact ⟨⟨s.data.toList, k, k2⟩, by simp only [← str_eq (s := s) rfl], bounds64 w1, by simp [y0, y1, y2, Rows.uptoBulk, Rows.uptoBulkAll, wtD]; omega⟩) f0 (by omega)
      obtain ⟨l5, xs5, u5, ev5, r5, p5, t5, s5⟩ := open_rows Tryd.underlying23 cB (by decide) (isB w (fun g => g < w.heap.size)) finB wtB 1048575 (by decide) (open_bind (by decide) (open_exp 1048575 (by decide))) f1 (by omega)
      simp only [List.cons.injEq, and_true] at ev0 ev5
      subst ev0 ev5
      have hxs : ∀ (l : List D) xs, RowsOf (fun (y : D) c => c = [.string (str y.name), .int .i64 y.arity, .int .i64 y.at']) l xs → xs = datC l := fun l => by
        induction l with
        | nil => intro xs q; exact q
        | cons s r ih => intro xs q; obtain ⟨c1, c2, rfl, rfl, q2⟩ := q; rw [ih c2 q2]; simp [datC]
      have hw : ∀ l : List D, sumW wtD l = wtDs l := fun l => by
        induction l with
        | nil => rfl
        | cons s r ih => simp only [sumW, wtDs, ih]
      rw [hxs l0 xs0 p0] at r0
      rw [hw] at s0
      rw [sum_B] at s5
      exact ⟨⟨l0, l5⟩, ⟨_, _, xs5, rfl, r0, r5, rows_B _ _ p5⟩, ⟨t0, fin_B _ t5⟩, by unfold wtP; simp only; omega⟩
  | _ => simp [Value.cells] at hl
end

end Go.Proofs.YtcbdolflgpmaoaaDoor
