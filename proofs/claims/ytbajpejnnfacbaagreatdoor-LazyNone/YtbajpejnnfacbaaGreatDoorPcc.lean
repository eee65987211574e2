/- Package scope's checker in memory: its maps, its block; the fault; which names are in scope. -/
import Derived.Test.YtbajpejnnfacbaaGreatDoorPri
import Derived.Maps.OwnSet
import Derived.Deep.RegionLaw
namespace Go.Proofs.YtbajpejnnfacbaaGreatDoor
open Go.RowKit
open Go.Maps (Keyed string_keyed)
set_option linter.unusedVariables false
set_option linter.unusedSimpArgs false

/-- nothing that was there has turned but the blocks b, f, m -/
structure Ge (b f m : Nat) (w w' : World) : Prop where
  os : w'.os = w.os
  tape : w'.tape = w.tape
  output : w'.output = w.output
  size : w.heap.size ≤ w'.heap.size
  block : ∀ i, i < w.heap.size → i ≠ b → i ≠ f → i ≠ m → w'.heap[i]? = w.heap[i]?
theorem Ge.refl (b f m : Nat) (w : World) : Ge b f m w w := ⟨rfl, rfl, rfl, Nat.le_refl _, fun _ _ _ _ _ => rfl⟩
theorem Ge.trans {b f m : Nat} {w w1 w2 : World} (h : Ge b f m w w1) (k : Ge b f m w1 w2) : Ge b f m w w2 :=
  ⟨k.os.trans h.os, k.tape.trans h.tape, k.output.trans h.output, Nat.le_trans h.size k.size, fun i hi a c d => (k.block i (Nat.lt_of_lt_of_le hi h.size) a c d).trans (h.block i hi a c d)⟩
theorem Ge.of_below {b f m : Nat} {w w' : World} (h : Below w.heap.size w w') : Ge b f m w w' := ⟨h.os, h.tape, h.output, h.size, fun i hi _ _ _ => h.block i hi⟩
theorem Ge.of_grown {b f m : Nat} {w w' : World} {row : Option Nat} (h : w.grownBy w' row) (hr : ∀ i, row = some i → i = b ∨ i = f ∨ i = m) : Ge b f m w w' :=
  ⟨h.os, h.tape, h.output, h.size, fun i hi a c d => h.block i hi (fun e => by rcases hr i e.symm with z | z | z; exact a z; exact c z; exact d z)⟩
theorem Ge.alloc {b f m : Nat} {w w1 : World} (h : Ge b f m w w1) (o : Obj) : Ge b f m w (w1.alloc o) := h.trans (Ge.of_below (Joins.below_alloc1 _ _))
theorem Ge.drew {b f m : Nat} {w w1 : World} (h : Ge b f m w w1) : Ge b f m w w1.drew := h.trans (Ge.of_grown (grown_drew w1) (fun i e => by cases e))
theorem Ge.below {b f m B : Nat} {w w' : World} (h : Ge b f m w w') (hb : B ≤ b) (hf : B ≤ f) (hm : B ≤ m) (hw : B ≤ w.heap.size) : Below B w w' :=
  ⟨h.os, h.tape, h.output, h.size, fun k hk => h.block k (by omega) (by omega) (by omega) (by omega)⟩
/-- any block but those three -/
abbrev but3 (b f m : Nat) : Nat → Prop := fun g => g ≠ b ∧ g ≠ f ∧ g ≠ m
theorem Ge.keeps {b f m : Nat} {w w' : World} (h : Ge b f m w w') : Keeps (but3 b f m) (but3 b f m) w w' :=
  ⟨fun g off u hg hc => (World.cell?_of_block (h.block g (World.block_lt_of_cell? _ _ hc) hg.1 hg.2.1 hg.2.2)).trans hc, fun _ h => h⟩
theorem Bx.ge {w w' : World} {b f m x : Nat} {cs : Array Value} {t : TypeId} (h : Bx w x cs t) (k : Ge b f m w w') (hx : but3 b f m x) : Bx w' x cs t := (k.block x h.lt hx.1 hx.2.1 hx.2.2).trans h

theorem law9 : Keyed Tryz.prog 9 := string_keyed Tryz.underlying9
theorem zero3 (w : World) : (zeroValue 3).run Tryz.prog w = .ok (.int .i64 0) w := by kernel_rfl
/-- a map from names to numbers -/
def Mp (w : World) (m n : Nat) (g : Nm → Option Int) : Prop :=
  ∃ D : DataW Unit, w.ownsMap Tryz.prog 9 (plainElem Tryz.prog 3) m n D ∧ ∀ s : Nm, Maps.has D (.string s) = (g s).isSome ∧ D.atKey (.string s) (.lit (.int .i64 0)) = .lit (.int .i64 ((g s).getD 0))
theorem Mp.lt {w : World} {m n : Nat} {g : Nm → Option Int} (h : Mp w m n g) : m < w.heap.size := by obtain ⟨D, h, _⟩ := h; exact h.lt
theorem Mp.grown {w w' : World} {m n : Nat} {g : Nm → Option Int} {row : Option Nat} (h : Mp w m n g) (k : w.grownBy w' row) (hr : row ≠ some m) : Mp w' m n g := by
  obtain ⟨D, h, q⟩ := h
  exact ⟨D, h.kept k (fun e => hr e.symm), q⟩
theorem Mp.of_block {w w' : World} {m n : Nat} {g : Nm → Option Int} (h : Mp w m n g) (k : w'.heap[m]? = w.heap[m]?) : Mp w' m n g := by
  obtain ⟨D, ⟨es, clock, hb, r⟩, q⟩ := h
  exact ⟨D, ⟨es, clock, k.trans hb, r⟩, q⟩
theorem Mp.mono {w : World} {m n n' : Nat} {g : Nm → Option Int} (h : Mp w m n g) (k : n ≤ n') : Mp w m n' g := by
  obtain ⟨D, h, q⟩ := h
  exact ⟨D, h.mono k, q⟩
theorem Mp.made (w : World) : Mp (w.alloc (.map #[] 0)) w.heap.size 0 (fun _ => none) :=
  ⟨.map [], World.ownsMap_made w _ _ _, fun s => ⟨rfl, rfl⟩⟩
def updG (g : Nm → Option Int) (s : Nm) (v : Int) : Nm → Option Int := fun x => if x = s then some v else g x
theorem key_str {s : Nm} (hs : s.length ≤ maxLen) : keyOf Tryz.prog 9 (.string (str s)) = some (.string s) := by
  have := WideMaps.keyOf_string_mk (P := Tryz.prog) Tryz.underlying9 (s := str s) (by rw [str_size]; exact hs)
  rwa [str_list] at this
theorem Mp.put {w' : World} {m n : Nat} {D : DataW Unit} {g : Nm → Option Int} (q : ∀ s : Nm, Maps.has D (.string s) = (g s).isSome ∧ D.atKey (.string s) (.lit (.int .i64 0)) = .lit (.int .i64 ((g s).getD 0))) (hm : Maps.IsMap D) (s : Nm) (v : Int)
    (h : w'.ownsMap Tryz.prog 9 (plainElem Tryz.prog 3) m n (D.put (.string s) (.lit (.int .i64 v)))) : Mp w' m n (updG g s v) := by
  refine ⟨_, h, fun x => ?_⟩
  unfold updG
  by_cases e : x = s
  · subst e
    rw [if_pos rfl]
    exact ⟨Maps.has_put_same hm (by trivial) _, Maps.atKey_put_same hm (by trivial) _ _⟩
  · rw [if_neg e]
    have ne : Lit.string x ≠ Lit.string s := fun z => e (by cases z; rfl)
    exact ⟨(Maps.has_put_other ne _).trans (q x).1, (Maps.atKey_put_other ne _ _).trans (q x).2⟩
/-- the names in scope, each counted -/
def Mb (w : World) (m n : Nat) (bd : Nm → Nat) : Prop := ∃ g, Mp w m n g ∧ ∀ s, (g s).getD 0 = (bd s : Int) ∧ bd s ≤ n
/-- the checker, where nothing has been wrong -/
structure Cs (w : World) (b f m nf n : Nat) (fl : Nm → Option Int) (bd : Nm → Nat) : Prop where
  blk : w.heap[b]? = some (.cells #[.map (some f), .map (some m), .int .i64 0, .int .i64 0] 105 (0, 0))
  fs : Mp w f nf fl
  bs : Mb w m n bd
  ne : b ≠ f ∧ b ≠ m ∧ f ≠ m
  tb : Table w
  pos : 0 ≠ b ∧ 0 ≠ f ∧ 0 ≠ m
/-- .. where something has been wrong -/
def Ft (w : World) (b : Nat) (a c : Int) : Prop := ∃ v0 v1, w.heap[b]? = some (.cells #[v0, v1, .int .i64 a, .int .i64 c] 105 (0, 0))
section
variable {w w' : World} {b f m nf n : Nat} {fl : Nm → Option Int} {bd : Nm → Nat}
theorem Cs.lt (h : Cs w b f m nf n fl bd) : b < w.heap.size := (Array.getElem?_eq_some_iff.1 h.blk).1
theorem Cs.lts (h : Cs w b f m nf n fl bd) : b < w.heap.size ∧ f < w.heap.size ∧ m < w.heap.size := ⟨h.lt, h.fs.lt, by obtain ⟨g, h, _⟩ := h.bs; exact h.lt⟩
theorem Cs.new (h : Cs w b f m nf n fl bd) {x : Nat} (hx : w.heap.size ≤ x) : but3 b f m x := by
  obtain ⟨a, c, d⟩ := h.lts
  exact ⟨by omega, by omega, by omega⟩
theorem Cs.later (h : Cs w b f m nf n fl bd) (k : Below w.heap.size w w') : Cs w' b f m nf n fl bd := by
  obtain ⟨l1, l2, l3⟩ := h.lts
  obtain ⟨g, hg, q⟩ := h.bs
  exact ⟨(k.block b l1).trans h.blk, h.fs.of_block (k.block f l2), ⟨g, hg.of_block (k.block m l3), q⟩, h.ne, h.tb.later k, h.pos⟩
theorem Cs.alloc (h : Cs w b f m nf n fl bd) (o : Obj) : Cs (w.alloc o) b f m nf n fl bd := h.later (Joins.below_alloc1 w o)
theorem Cs.drew (h : Cs w b f m nf n fl bd) : Cs w.drew b f m nf n fl bd := h.later ⟨rfl, rfl, rfl, Nat.le_refl _, fun _ _ => rfl⟩
theorem Cs.mono (h : Cs w b f m nf n fl bd) {n' : Nat} (k : n ≤ n') : Cs w b f m nf n' fl bd := by
  obtain ⟨g, hg, q⟩ := h.bs
  exact ⟨h.blk, h.fs, ⟨g, hg.mono k, fun s => ⟨(q s).1, Nat.le_trans (q s).2 k⟩⟩, h.ne, h.tb, h.pos⟩
theorem Cs.cell (h : Cs w b f m nf n fl bd) (j : Nat) : w.cell? ⟨b, j, none⟩ = #[.map (some f), .map (some m), .int .i64 0, .int .i64 0][j]? := Joins.cell_of_block h.blk j
theorem Cs.z (h : Cs w b f m nf n fl bd) (j : Nat) : w.frozen? ⟨b, j, none⟩ = false := Joins.unfrozen_of_block h.blk j
theorem Ft.later {a c : Int} (h : Ft w b a c) (k : Below w.heap.size w w') : Ft w' b a c := by
  obtain ⟨v0, v1, h⟩ := h
  exact ⟨v0, v1, (k.block b (Array.getElem?_eq_some_iff.1 h).1).trans h⟩
abbrev yes : Ending := .returned (.bool true)
abbrev no : Ending := .returned (.bool false)
/-- what a step leaves: it tells whether all was right -/
def Res (w : World) (b f m nf n : Nat) (fl : Nm → Option Int) (bd : Nm → Nat) : Flt → Ending → World → Prop
  | none, e, w' => e = yes ∧ Ge b f m w w' ∧ Cs w' b f m nf n fl bd
  | some (a, c), e, w' => e = no ∧ Ge b f m w w' ∧ Ft w' b a c
set_option maxHeartbeats 1000000 in
theorem pfail_any (h : Cs w b f m nf n fl bd) (a c : Int) : Calls Tryz.prog 45 #[ptr b, .int .i64 a, .int .i64 c] w fun e w' => e = no ∧ Ge b f m w w' ∧ Ft w' b a c := by
  have c2 : w.cell? ⟨b, 2, none⟩ = some (.int .i64 0) := h.cell 2
  have c3 : w.cell? ⟨b, 3, none⟩ = some (.int .i64 0) := h.cell 3
  have z2 := h.z 2
  have z3 := h.z 3
  have H := Hid.mk h
  clear h
  go_enter Tryz.func45, Tryz.ntmps45
  go_wp2
  go_ret
  refine ⟨rfl, Ge.of_grown (((Fr.refl b w).set 2 _).set 3 _) (fun i e => .inl (Option.some.inj e).symm), _, _, Joins.block_setCell (i := 3) (Joins.block_setCell (i := 2) H.out.blk _) _⟩
set_option maxHeartbeats 1000000 in
theorem phas_any (h : Cs w b f m nf n fl bd) (s : Nm) (hs : s.length ≤ maxLen) : Calls Tryz.prog 44 #[ptr b, .string (str s)] w fun e w' => e = .returned (.bool (decide (0 < bd s))) ∧ w' = w := by
  have c1 : w.cell? ⟨b, 1, none⟩ = some (.map (some m)) := h.cell 1
  obtain ⟨g, ⟨D, hD, q⟩, q2⟩ := h.bs
  have hat0 := (q s).2
  rw [(q2 s).1] at hat0
  have H := Hid.mk hat0
  clear h q q2 hat0
  go_enter Tryz.func44, Tryz.ntmps44
  go_wp2_with (at_lookup; refine wpList_lookup_own_int _ rfl _ _ 70 rfl 9 3 .i64 law9 Tryz.underlying70 Tryz.underlying3 (zero3 _) m n D rfl hD _ _ rfl (key_str hs) ?_; intro c hat hwc; have HC : Hid (c = (bd s : Int)) := ⟨by have := hat.symm.trans H.out; cases this; rfl⟩; clear hat)
  go_ret
  exact ⟨by rw [HC.out]; simp, rfl⟩
end
end Go.Proofs.YtbajpejnnfacbaaGreatDoor

/- Package scope's checker: names come into scope, and leave it. -/
namespace Go.Proofs.YtbajpejnnfacbaaGreatDoor
open Go.RowKit
open Go.Maps (Keyed string_keyed)
set_option linter.unusedVariables false
set_option linter.unusedSimpArgs false

/-- some names more -/
def plus (bd : Nm → Nat) (l : List Nm) : Nm → Nat := fun s => bd s + l.count s
theorem plus_nil (bd : Nm → Nat) : plus bd [] = bd := by funext s; simp [plus]
theorem plus_take (bd : Nm → Nat) (l : List Nm) (k : Nat) (h : k < l.length) (s : Nm) : plus bd (l.take (k + 1)) s = if s = l[k]'h then plus bd (l.take k) s + 1 else plus bd (l.take k) s := by
  unfold plus
  rw [List.take_succ_eq_append_getElem h, List.count_append, List.count_singleton]
  by_cases e : s = l[k]'h
  · rw [if_pos e, if_pos (by simp [e])]; omega
  · rw [if_neg e, if_neg (by simp; exact fun z => e z.symm)]; omega
theorem plus_drop (bd : Nm → Nat) (l : List Nm) (k : Nat) (h : k < l.length) (s : Nm) : plus bd (l.drop k) s = if s = l[k]'h then plus bd (l.drop (k + 1)) s + 1 else plus bd (l.drop (k + 1)) s := by
  unfold plus
  rw [List.drop_eq_getElem_cons h, List.count_cons]
  by_cases e : s = l[k]'h
  · rw [if_pos e, if_pos (by simp [e])]; omega
  · rw [if_neg e, if_neg (by simp; exact fun z => e z.symm)]; omega
section
variable {w w' : World} {b f m nf n : Nat} {fl : Nm → Option Int} {bd : Nm → Nat}
/-- what a name's number is turned into -/
theorem Cs.put {w1 : World} {g : Nm → Option Int} {D : DataW Unit} {s : Nm} {v : Int} {bd' : Nm → Nat} (h : Cs w b f m nf n fl bd) (q : ∀ s : Nm, Maps.has D (.string s) = (g s).isSome ∧ D.atKey (.string s) (.lit (.int .i64 0)) = .lit (.int .i64 ((g s).getD 0))) (q2 : ∀ s, (g s).getD 0 = (bd s : Int) ∧ bd s ≤ n) (hm : Maps.IsMap D)
    (hw : w1.ownsMap Tryz.prog 9 (plainElem Tryz.prog 3) m (n + 1) (D.put (.string s) (.lit (.int .i64 v)))) (hg : w.grownBy w1 (some m)) (hb : ∀ x, x ≠ s → bd' x = bd x) (hs : v = (bd' s : Int)) (hn : bd' s ≤ n + 1) : Cs w1 b f m nf (n + 1) fl bd' := by
  refine ⟨(hg.block b h.lt (fun e => h.ne.2.1 (Option.some.inj e))).trans h.blk, h.fs.grown hg (fun e => h.ne.2.2 (Option.some.inj e).symm), ⟨updG g s v, Mp.put q hm s v hw, fun x => ?_⟩, h.ne, h.tb.of_block (hg.block 0 h.tb.pos (fun e => h.pos.2.2 (Option.some.inj e))), h.pos⟩
  unfold updG
  by_cases e : x = s
  · subst e
    rw [if_pos rfl]
    exact ⟨hs, hn⟩
  · rw [if_neg e, hb x e]
    exact ⟨(q2 x).1, Nat.le_succ_of_le (q2 x).2⟩
theorem Ge.map {w1 : World} (hg : w.grownBy w1 (some m)) : Ge b f m w w1 := Ge.of_grown hg (fun i e => .inr (.inr (Option.some.inj e).symm))
set_option maxHeartbeats 1000000 in
theorem penter_any (h : Cs w b f m nf n fl bd) (l : List Nm) (v : Value) (I : IsRow w (but3 b f m) (strC l) l.length v) (hl : ∀ s ∈ l, s.length ≤ maxLen) (hn : n + l.length ≤ 1000000000) :
    Calls Tryz.prog 58 #[ptr b, v] w fun e w' => e = done ∧ Ge b f m w w' ∧ Cs w' b f m nf (n + l.length) fl (plus bd l) := by
  obtain ⟨ga, cap, rfl, hc, hx⟩ := I
  have HX := Hid.mk hx
  have HL := Hid.mk hl
  obtain ⟨k, hk⟩ : ∃ k, l.length = k := ⟨_, rfl⟩
  have HN := Hid.mk hk
  rw [hk] at hc hn ⊢
  clear hx hl hk
  go_enter Tryz.func58, Tryz.ntmps58
  go_wp2
  go_loopw [8] (fun c wr => ∃ i : Nat, c = .int .i64 i ∧ i ≤ k ∧ Ge b f m w wr ∧ Hid (Cs wr b f m nf (n + i) fl (plus bd (l.take i)))) (fun c _ => k - (intOf c).toNat)
  case atStart => exact ⟨0, rfl, Nat.zero_le _, Ge.refl _ _ _ _, ⟨by rw [List.take_zero, plus_nil]; exact h⟩⟩
  case round =>
    obtain ⟨i, rfl, hi, G, HC⟩ := hrel
    by_cases hlt : i < k
    · have kl : i < l.length := by rw [HN.out]; exact hlt
      obtain ⟨p, off, rfl, hp, hx⟩ := HX.out (by rw [HN.out]; omega)
      have c0 := G.keeps.cell p _ _ hp (hx i _ (strC_get l i kl))
      have hs : (l[i]'kl).length ≤ maxLen := HL.out _ (List.getElem_mem kl)
      have c1 : wr.cell? ⟨b, 1, none⟩ = some (.map (some m)) := HC.out.cell 1
      obtain ⟨g, ⟨D, hD, q⟩, q2⟩ := HC.out.bs
      have hat0 := (q (l[i]'kl)).2
      rw [(q2 _).1] at hat0
      have H := Hid.mk hat0
      have HQ := Hid.mk q
      have HQ2 := Hid.mk q2
      have hlt' : (i : Int) < k := by omega
      have HP := Hid.mk (plus_take bd l i kl)
      generalize l[i]'kl = s at *
      clear q q2 hat0 hx h
      go_wp2_with (first
        | (at_lookup; refine wpList_lookup_own_int _ rfl _ _ 70 rfl 9 3 .i64 law9 Tryz.underlying70 Tryz.underlying3 (zero3 _) m (n + i) D rfl hD _ _ rfl (key_str hs) ?_; intro c hat hwc; have HCC : Hid (c = (plus bd (l.take i) s : Int)) := ⟨by have := hat.symm.trans H.out; cases this; rfl⟩; clear hat)
        | (at_mapUpdate; refine wpList_mapUpdate_own _ rfl _ _ _ 70 rfl 9 3 law9 Tryz.underlying70 _ m (n + i) _ rfl hD (by unfold maxLen; omega) _ _ _ rfl rfl (key_str hs) _ [] (plainElem_int Tryz.underlying3 (wrap64_wf _)) ?_; intro w1 hown1 hgrow1))
      have C1 : Cs w1 b f m nf (n + (i + 1)) fl (plus bd (l.take (i + 1))) := by
        have e := HP.out s
        rw [if_pos rfl] at e
        have l1 := (HQ2.out s).2
        exact HC.out.put HQ.out HQ2.out hD.isMap hown1 hgrow1 (fun x hx => by rw [HP.out x, if_neg hx]) (by rw [HCC.out, e]; unfold wrap64; omega) (by omega)
      exact ⟨⟨i + 1, by go_num, by omega, G.trans (Ge.map hgrow1), ⟨C1⟩⟩, by simp [intOf]; omega⟩
    · obtain rfl : i = k := by omega
      have C1 : Cs wr b f m nf (n + i) fl (plus bd l) := by
        have := HC.out
        rwa [List.take_of_length_le (by rw [HN.out]; omega)] at this
      have HC1 := Hid.mk C1
      clear C1 h HC
      go_wp2
      go_end0
      exact ⟨rfl, G, HC1.out⟩
set_option maxHeartbeats 1000000 in
theorem pleave_any (l : List Nm) (h : Cs w b f m nf n fl (plus bd l)) (v : Value) (I : IsRow w (but3 b f m) (strC l) l.length v) (hl : ∀ s ∈ l, s.length ≤ maxLen) (hn : n + l.length ≤ 1000000000) :
    Calls Tryz.prog 109 #[ptr b, v] w fun e w' => e = done ∧ Ge b f m w w' ∧ Cs w' b f m nf (n + l.length) fl bd := by
  obtain ⟨ga, cap, rfl, hc, hx⟩ := I
  have HX := Hid.mk hx
  have HL := Hid.mk hl
  obtain ⟨k, hk⟩ : ∃ k, l.length = k := ⟨_, rfl⟩
  have HN := Hid.mk hk
  rw [hk] at hc hn ⊢
  clear hx hl hk
  go_enter Tryz.func109, Tryz.ntmps109
  go_wp2
  go_loopw [8] (fun c wr => ∃ i : Nat, c = .int .i64 i ∧ i ≤ k ∧ Ge b f m w wr ∧ Hid (Cs wr b f m nf (n + i) fl (plus bd (l.drop i)))) (fun c _ => k - (intOf c).toNat)
  case atStart => exact ⟨0, rfl, Nat.zero_le _, Ge.refl _ _ _ _, ⟨by rw [List.drop_zero]; exact h⟩⟩
  case round =>
    obtain ⟨i, rfl, hi, G, HC⟩ := hrel
    by_cases hlt : i < k
    · have kl : i < l.length := by rw [HN.out]; exact hlt
      obtain ⟨p, off, rfl, hp, hx⟩ := HX.out (by rw [HN.out]; omega)
      have c0 := G.keeps.cell p _ _ hp (hx i _ (strC_get l i kl))
      have hs : (l[i]'kl).length ≤ maxLen := HL.out _ (List.getElem_mem kl)
      have c1 : wr.cell? ⟨b, 1, none⟩ = some (.map (some m)) := HC.out.cell 1
      obtain ⟨g, ⟨D, hD, q⟩, q2⟩ := HC.out.bs
      have hat0 := (q (l[i]'kl)).2
      rw [(q2 _).1] at hat0
      have H := Hid.mk hat0
      have HQ := Hid.mk q
      have HQ2 := Hid.mk q2
      have hlt' : (i : Int) < k := by omega
      have HP := Hid.mk (plus_drop bd l i kl)
      generalize l[i]'kl = s at *
      clear q q2 hat0 hx h
      go_wp2_with (first
        | (at_lookup; refine wpList_lookup_own_int _ rfl _ _ 70 rfl 9 3 .i64 law9 Tryz.underlying70 Tryz.underlying3 (zero3 _) m (n + i) D rfl hD _ _ rfl (key_str hs) ?_; intro c hat hwc; have HCC : Hid (c = (plus bd (l.drop i) s : Int)) := ⟨by have := hat.symm.trans H.out; cases this; rfl⟩; clear hat)
        | (at_mapUpdate; refine wpList_mapUpdate_own _ rfl _ _ _ 70 rfl 9 3 law9 Tryz.underlying70 _ m (n + i) _ rfl hD (by unfold maxLen; omega) _ _ _ rfl rfl (key_str hs) _ [] (plainElem_int Tryz.underlying3 (wrap64_wf _)) ?_; intro w1 hown1 hgrow1))
      have C1 : Cs w1 b f m nf (n + (i + 1)) fl (plus bd (l.drop (i + 1))) := by
        have e := HP.out s
        rw [if_pos rfl] at e
        have l1 := (HQ2.out s).2
        exact HC.out.put HQ.out HQ2.out hD.isMap hown1 hgrow1 (fun x hx => by rw [HP.out x, if_neg hx]) (by rw [HCC.out, e]; unfold wrap64; omega) (by omega)
      exact ⟨⟨i + 1, by go_num, by omega, G.trans (Ge.map hgrow1), ⟨C1⟩⟩, by simp [intOf]; omega⟩
    · obtain rfl : i = k := by omega
      have C1 : Cs wr b f m nf (n + i) fl bd := by
        have := HC.out
        rwa [List.drop_eq_nil_of_le (by rw [HN.out]; omega), plus_nil] at this
      have HC1 := Hid.mk C1
      clear C1 h HC
      go_wp2
      go_end0
      exact ⟨rfl, G, HC1.out⟩
end
end Go.Proofs.YtbajpejnnfacbaaGreatDoor

/- Package scope: the first double of a list. -/
namespace Go.Proofs.YtbajpejnnfacbaaGreatDoor
open Go.RowKit
open Go.Maps (Keyed string_keyed)
set_option linter.unusedVariables false
set_option linter.unusedSimpArgs false

section
variable {κ : Type} [BEq κ]
/-- the place of the first of which one ahead is the same -/
def fdI (ahead : List κ) : List κ → Nat → Int
  | [], _ => -1
  | x :: r, i => if ahead.contains x = true then (i : Int) else fdI (ahead ++ [x]) r (i + 1)
def firstD (l : List κ) : Int := fdI [] l 0
def noD (l : List κ) (i : Nat) : Prop := ∀ j, j < i → ∀ h : j < l.length, (l.take j).contains (l[j]'h) = false
theorem noD_zero (l : List κ) : noD l 0 := fun j h => absurd h (Nat.not_lt_zero _)
theorem noD_succ {l : List κ} {i : Nat} (h : noD l i) (hi : i < l.length) (q : (l.take i).contains (l[i]'hi) = false) : noD l (i + 1) := fun j hj hl => by
  by_cases e : j = i
  · subst e; exact q
  · exact h j (by omega) hl
theorem fd_spec (l : List κ) : ∀ k, k ≤ l.length → noD l k → firstD l = fdI (l.take k) (l.drop k) k
  | 0, _, _ => by rw [List.take_zero, List.drop_zero]; rfl
  | k + 1, hk, h => by
    have kl : k < l.length := by omega
    rw [fd_spec l k (by omega) (fun j hj hl => h j (by omega) hl), List.drop_eq_getElem_cons kl, fdI, if_neg (by rw [h k (by omega) kl]; simp), ← List.take_succ_eq_append_getElem kl]
theorem fdI_ge : ∀ (l ahead : List κ) (k : Nat), fdI ahead l k = -1 ∨ (k : Int) ≤ fdI ahead l k
  | [], _, _ => .inl rfl
  | x :: r, ahead, k => by
    rw [fdI]
    by_cases e : ahead.contains x = true
    · rw [if_pos e]; exact .inr (Int.le_refl _)
    · rw [if_neg e]
      rcases fdI_ge r (ahead ++ [x]) (k + 1) with h | h
      · exact .inl h
      · exact .inr (by omega)
theorem fd_at {l : List κ} {i : Nat} (hi : i < l.length) (h : noD l i) : ((i : Int) == firstD l) = (l.take i).contains (l[i]'hi) := by
  rw [fd_spec l i (by omega) h, List.drop_eq_getElem_cons hi, fdI]
  cases q : (l.take i).contains (l[i]'hi)
  · rw [if_neg (by simp)]
    have e := fdI_ge (l.drop (i + 1)) (l.take i ++ [l[i]'hi]) (i + 1)
    generalize fdI (l.take i ++ [l[i]'hi]) (l.drop (i + 1)) (i + 1) = t at e
    exact beq_eq_false_iff_ne.2 (by rcases e with e | e <;> omega)
  · rw [if_pos rfl]; simp
end
theorem fdI_twice : ∀ (l ahead : List Nm) (k : Nat), decide (0 ≤ fdI ahead l k) = twR ahead l
  | [], _, _ => rfl
  | x :: r, ahead, k => by
    rw [fdI, twR]
    cases e : ahead.contains x
    · rw [if_neg (by simp), Bool.false_or]
      exact fdI_twice r _ _
    · rw [if_pos rfl, Bool.true_or]
      simp
theorem fd_twice (l : List Nm) : decide (0 ≤ firstD l) = twiceN l := (fdI_twice l [] 0).trans (twR_nil l)
/-- the keys that have been met -/
def Seen (w : World) (z i : Nat) (l : List Nm) : Prop := ∃ g, Mp w z i g ∧ ∀ s, (g s).isSome = l.contains s
theorem Seen.later {w w' : World} {z i : Nat} {l : List Nm} (h : Seen w z i l) (k : Below (z + 1) w w') : Seen w' z i l := by
  obtain ⟨g, h, q⟩ := h
  exact ⟨g, h.of_block (k.block z (Nat.lt_succ_self _)), q⟩
theorem Seen.grow {w' : World} {z i : Nat} {l : List Nm} {g : Nm → Option Int} {D : DataW Unit} {s : Nm} {v : Int} (q0 : ∀ s, (g s).isSome = l.contains s) (q : ∀ s : Nm, Maps.has D (.string s) = (g s).isSome ∧ D.atKey (.string s) (.lit (.int .i64 0)) = .lit (.int .i64 ((g s).getD 0))) (hm : Maps.IsMap D)
    (hw : w'.ownsMap Tryz.prog 9 (plainElem Tryz.prog 3) z i (D.put (.string s) (.lit (.int .i64 v)))) : Seen w' z i (l ++ [s]) := by
  refine ⟨updG g s v, Mp.put q hm s v hw, fun x => ?_⟩
  unfold updG
  rw [has_snoc]
  by_cases e : x = s
  · rw [if_pos e]; simp [e]
  · rw [if_neg e, q0 x, show (x == s) = false from beq_eq_false_iff_ne.2 e, Bool.or_false]
set_option maxHeartbeats 1000000 in
theorem key71 (s : ByteArray) (w : World) : Calls Tryz.prog 107 #[.string s] w fun e w' => e = .returned (.string s) ∧ w' = w := by
  go_enter Tryz.func107, Tryz.ntmps107
  go_wp2
  go_ret
  exact ⟨rfl, rfl⟩
set_option maxHeartbeats 1000000 in
theorem fd70_any {w : World} {ok : Nat → Prop} (l : List Nm) (v : Value) (R : IsRow w ok (strC l) l.length v) (hl : ∀ s ∈ l, s.length ≤ maxLen) :
    Calls Tryz.prog 106 #[v, .func (.func 107) #[] #[]] w fun e w' => e = .returned (.int .i64 (firstD l)) ∧ Below w.heap.size w w' := by
  obtain ⟨ga, cap, rfl, hc, hx⟩ := R
  obtain ⟨r, hr⟩ : ∃ r, firstD l = r := ⟨_, rfl⟩
  have HR : Hid (fdI (l.take 0) (l.drop 0) 0 = r) := ⟨by rw [List.take_zero, List.drop_zero]; exact hr⟩
  have HX := Hid.mk hx
  have HL := Hid.mk hl
  rw [hr]
  obtain ⟨k, hk⟩ : ∃ k, l.length = k := ⟨_, rfl⟩
  have HN := Hid.mk hk
  rw [hk] at hc ⊢
  have S0 : Seen (w.alloc (.map #[] 0)) w.heap.size 0 (l.take 0) := ⟨_, Mp.made w, fun s => by simp⟩
  have B0 := Joins.below_alloc1 w (.map #[] 0)
  have hmm := @run_makeMap Tryz.prog
  clear hx hl hk hr
  go_enter Tryz.func106, Tryz.ntmps106
  go_wp2
  generalize hz : w.heap.size = z at *
  generalize w.alloc (.map #[] 0) = w1 at *
  go_loopw [13] (fun c wr => ∃ i : Nat, c = .int .i64 i ∧ i ≤ k ∧ Below z w wr ∧ Hid (fdI (l.take i) (l.drop i) i = r) ∧ Hid (Seen wr z i (l.take i))) (fun c _ => k - (intOf c).toNat)
  case atStart => exact ⟨0, rfl, Nat.zero_le _, B0, HR, ⟨S0⟩⟩
  case round =>
    obtain ⟨i, rfl, hi, B, HF, HS⟩ := hrel
    by_cases hlt : i < k
    · have kl : i < l.length := by rw [HN.out]; exact hlt
      obtain ⟨p, off, rfl, hp, hx⟩ := HX.out (by rw [HN.out]; omega)
      have c0 := hx i _ (strC_get l i kl)
      have c0' := (B.cell (by rw [← hz]; exact World.block_lt_of_cell? _ _ c0)).trans c0
      have hs : (l[i]'kl).length ≤ maxLen := HL.out _ (List.getElem_mem kl)
      obtain ⟨g, ⟨D, hD, q⟩, q0⟩ := HS.out
      have HH : Hid (Maps.has D (.string (l[i]'kl)) = (l.take i).contains (l[i]'kl)) := ⟨(q _).1.trans (q0 _)⟩
      have HQ := Hid.mk q
      have HQ0 := Hid.mk q0
      have hf := HF.out
      rw [List.drop_eq_getElem_cons kl, fdI, ← List.take_succ_eq_append_getElem kl] at hf
      have HT : Hid (l.take i ++ [l[i]'kl] = l.take (i + 1)) := ⟨(List.take_succ_eq_append_getElem kl).symm⟩
      have hlt' : (i : Int) < k := by omega
      have K := fun W => key71 (str (l[i]'kl)) W
      generalize l[i]'kl = s at *
      clear c0 hx q q0
      cases e : (l.take i).contains s
      · rw [e, if_neg (by simp)] at hf
        rw [e] at HH
        have HF' := Hid.mk hf
        clear hf e
        go_wp2_with (first
          | (go_at_call 107; refine (K _).mono ?_; rintro e w6 ⟨rfl, rfl⟩)
          | (at_lookup; refine wpList_lookup_own_ok_int _ rfl _ _ 70 rfl 9 3 .i64 law9 Tryz.underlying70 Tryz.underlying3 (zero3 _) z i D rfl hD _ _ rfl (key_str hs) ?_; intro c hat hwc; rw [HH.out])
          | (at_mapUpdate; refine wpList_mapUpdate_own _ rfl _ _ _ 70 rfl 9 3 law9 Tryz.underlying70 _ z i _ rfl hD (by unfold maxLen; omega) _ _ _ rfl rfl (key_str hs) _ [] (plainElem_int Tryz.underlying3 (WalkArith.wf_i64 (by omega))) ?_; intro w1 hown1 hgrow1))
        have S1 : Seen w1 z (i + 1) (l.take (i + 1)) := by rw [← HT.out]; exact Seen.grow HQ0.out HQ.out hD.isMap hown1
        exact ⟨⟨i + 1, by go_num, by omega, B.grown hgrow1 (by rw [← hz]; exact B.size) (fun j hj => by cases hj; exact Nat.le_refl _), HF', ⟨S1⟩⟩, by simp [intOf]; omega⟩
      · rw [e, if_pos rfl] at hf
        rw [e] at HH
        have HF' := Hid.mk hf
        clear hf e
        go_wp2_with (first
          | (go_at_call 107; refine (K _).mono ?_; rintro e w6 ⟨rfl, rfl⟩)
          | (at_lookup; refine wpList_lookup_own_ok_int _ rfl _ _ 70 rfl 9 3 .i64 law9 Tryz.underlying70 Tryz.underlying3 (zero3 _) z i D rfl hD _ _ rfl (key_str hs) ?_; intro c hat hwc; rw [HH.out]))
        go_ret
        exact ⟨by rw [HF'.out]; rfl, by rw [hz]; exact B⟩
    · obtain rfl : i = k := by omega
      have HT : Hid (r = -1) := ⟨by have := HF.out; rw [List.drop_eq_nil_of_le (by rw [HN.out]; omega), fdI] at this; exact this.symm⟩
      clear HF HS
      go_wp2
      go_ret
      exact ⟨by rw [HT.out]; rfl, by rw [hz]; exact B⟩
end Go.Proofs.YtbajpejnnfacbaaGreatDoor
