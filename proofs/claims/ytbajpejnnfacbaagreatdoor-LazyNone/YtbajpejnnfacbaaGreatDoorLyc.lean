/- Package lazy: what primitives tell. -/
import Derived.Test.YtbajpejnnfacbaaGreatDoorLyb
namespace Go.Proofs.YtbajpejnnfacbaaGreatDoor.Lz
open Go.RowKit
set_option linter.unusedVariables false
set_option linter.unusedSimpArgs false


section
variable {w w' : World} {G G' : Gm} {rb mb : Nat} {mv : Mv} {s : St} {sh : Int}
theorem prw_get {th : List T} {rows : List (List Nat)} (h : Rep w G th rows) {j n : Nat} {v : Value} (k : pPrw G j n v) {l : List Nat} (hr : rows[j]? = some l) (hn : n = l.length) :
    ∃ g cap, v = .slice (some ⟨g, 0, none⟩) n cap ∧ ∀ i, i < l.length → ∃ b, w.cell? ⟨g, i, none⟩ = some (ptr b) ∧ G b = some (.thing (l.getD i 0)) := by
  obtain ⟨g, cap, rfl, _, hg⟩ := k
  refine ⟨g, cap, rfl, fun i hi => ?_⟩
  obtain ⟨l', c, e, hc, _, ht⟩ := h.cont g _ hg
  rw [hr] at e
  cases e
  have eg : l[i]? = some (l.getD i 0) := by rw [List.getD_eq_getElem?_getD, List.getElem?_eq_getElem hi]; rfl
  obtain ⟨v, hv, b, rfl, hb⟩ := ht i _ eg
  exact ⟨b, (Joins.cell_of_block hc i).trans hv, hb⟩
/-- a thing more -/
theorem Run.newT (h : Run w G rb mb mv s sh) {t : T} {c : Array Value} (ht : isT (w.alloc (.cells c 91)) (Lz.tag G w.heap.size (.thing s.th.length)) s.th.length t c) :
    Run (w.alloc (.cells c 91)) (Lz.tag G w.heap.size (.thing s.th.length)) rb mb mv { s with th := s.th ++ [t] } sh ∧ Fx G (Lz.tag G w.heap.size (.thing s.th.length)) w (w.alloc (.cells c 91)) := by
  have K := Joins.below_alloc1 w (.cells c 91)
  have fr := h.rep.free (Nat.le_refl _)
  have F : Fx G (Lz.tag G w.heap.size (.thing s.th.length)) w (w.alloc (.cells c 91)) := (Fx.of_below K).more rfl rfl rfl (Nat.le_refl _) (fun _ _ => rfl) (le_tag fr _) (fun i hi q => by rw [tag_ne _ _ (by omega)]; exact q)
  exact ⟨h.next F (fun b k hb => K.block b (h.rep.lt hb)) ((h.rep.below K).thing fr (heap_alloc_new w _) ht), F⟩
theorem tellNew_out (h : Run w G rb mb mv s sh) {t : T} {c : Array Value} (ht : isT (w.alloc (.cells c 91)) (Lz.tag G w.heap.size (.thing s.th.length)) s.th.length t c) :
    Calls Tryz.prog 67 #[ptr rb, ptr w.heap.size] (w.alloc (.cells c 91)) (Out w G rb mb mv (tellNew s t) sh) := by
  obtain ⟨R, F⟩ := h.newT ht
  exact (tells_any R ⟨w.heap.size, rfl, tag_self _ _ _⟩).mono (fun e w8 H => Out.from F H)
/-- a number more -/
theorem tellNum_out (h : Run w G rb mb mv s sh) (n : Int) : Calls Tryz.prog 67 #[ptr rb, ptr w.heap.size] (w.alloc (.cells (numC n) 91)) (Out w G rb mb mv (tellNew s (.num n)) sh) := tellNew_out h rfl
theorem getI {l : List Nat} {k : Nat} {m : Nat} (h : (l.length : Int) = tA k) (q : (m : Int) < tA k) : m < l.length := by omega
theorem seq_any (h : Run w G rb mb mv s sh) {j n : Nat} {v : Value} (hv : pPrw G j n v) {l : List Nat} (hr : s.rows[j]? = some l) (hn : n = l.length) (ha : Args s.th 9 l) : Calls Tryz.prog 85 #[ptr rb, v] w (Out w G rb mb mv (primS s 9 l) sh) := by
  obtain ⟨g, cap, rfl, hg⟩ := prw_get h.rep hv hr hn
  have ln : l.length = 2 := by have := ha.1; simp [tA] at this; omega
  obtain ⟨b, cb, hb⟩ := hg 1 (by omega)
  have K := knows_any h ⟨b, rfl, hb⟩
  rw [hn, ln]
  clear h hv hg hr ha hn hb
  go_enter Tryz.func85, Tryz.ntmps85
  go_wp2_with (go_at_call 49; refine K.mono ?_; intro e w9 H9; have HE := Hid.mk H9; obtain ⟨rfl, _⟩ := H9)
  go_end0
  exact HE.out
theorem ref_any (h : Run w G rb mb mv s sh) {j n : Nat} {v : Value} (hv : pPrw G j n v) {l : List Nat} (hr : s.rows[j]? = some l) (hn : n = l.length) (ha : Args s.th 10 l) : Calls Tryz.prog 86 #[ptr rb, v] w (Out w G rb mb mv (primS s 10 l) sh) := by
  obtain ⟨g, cap, rfl, hg⟩ := prw_get h.rep hv hr hn
  have ln : l.length = 1 := by have := ha.1; simp [tA] at this; omega
  obtain ⟨b, cb, hb⟩ := hg 0 (by omega)
  have K := tellNew_out h (t := .var (l.getD 0 0)) (c := thC 4 0 nilp nilp (ptr b) nils nilm 0) ⟨_, pT.le (le_tag (h.rep.free (Nat.le_refl _)) _) ⟨b, rfl, hb⟩, rfl⟩
  rw [hn, ln]
  clear h hv hg hr ha hn hb
  go_enter Tryz.func86, Tryz.ntmps86
  go_wp2_with (go_at_call 67; refine K.mono ?_; intro e w9 H9; have HE := Hid.mk H9; obtain ⟨rfl, _⟩ := H9)
  go_end0
  exact HE.out
theorem get_any (h : Run w G rb mb mv s sh) {j n : Nat} {v : Value} (hv : pPrw G j n v) {l : List Nat} (hr : s.rows[j]? = some l) (hn : n = l.length) (ha : Args s.th 11 l) : Calls Tryz.prog 87 #[ptr rb, v] w (Out w G rb mb mv (primS s 11 l) sh) := by
  obtain ⟨g, cap, rfl, hg⟩ := prw_get h.rep hv hr hn
  have ln : l.length = 1 := by have := ha.1; simp [tA] at this; omega
  obtain ⟨b, cb, hb⟩ := hg 0 (by omega)
  obtain ⟨u, hu⟩ := Known.var (show Known s.th (l.getD 0 0) 3 from ha.2.2 0 (by decide))
  obtain ⟨tv, c, e, hc, q⟩ := h.rep.cont b _ hb
  rw [hu] at e
  cases e
  obtain ⟨o, ⟨bo, rfl, ho⟩, rfl⟩ := q
  have c4 := (show Bx w b _ 91 from hc).cell 4
  have K := knows_any h ⟨bo, rfl, ho⟩
  have ep : primS s 11 l = { s with md := .kn u } := by
    have : thAt s (l.getD 0 0) = .var u := thAt_some hu
    unfold primS
    simp only [this]
    simp [ofT]
  rw [ep, hn, ln]
  clear h hv hg hr ha hn hb hu hc ho ep
  go_enter Tryz.func87, Tryz.ntmps87
  go_wp2_with (go_at_call 49; refine K.mono ?_; intro e w9 H9; have HE := Hid.mk H9; obtain ⟨rfl, _⟩ := H9)
  go_end0
  exact HE.out
theorem len_any (h : Run w G rb mb mv s sh) {j n : Nat} {v : Value} (hv : pPrw G j n v) {l : List Nat} (hr : s.rows[j]? = some l) (hn : n = l.length) (ha : Args s.th 16 l) : Calls Tryz.prog 94 #[ptr rb, v] w (Out w G rb mb mv (primS s 16 l) sh) := by
  obtain ⟨g, cap, rfl, hg⟩ := prw_get h.rep hv hr hn
  have ln : l.length = 1 := by have := ha.1; simp [tA] at this; omega
  obtain ⟨b, cb, hb⟩ := hg 0 (by omega)
  obtain ⟨tv, e, f, nm, o, ga, gn, gc, it, wr, XB⟩ := h.rep.heads hb
  have c1 := XB.cell 1
  have K := tellNum_out h (numOf tv)
  have NA := numbered_any w (numOf tv)
  have ep : primS s 16 l = tellNew s (.num (numOf tv)) := by
    have : thAt s (l.getD 0 0) = tv := thAt_some e
    unfold primS
    simp only [this]
    simp
  rw [ep, hn, ln]
  generalize numOf tv = m at *
  clear h hv hg hr ha hn hb e XB ep
  go_enter Tryz.func94, Tryz.ntmps94
  go_wp2_with (first | (go_at_call 35; refine NA.mono ?_; rintro e w8 ⟨rfl, rfl⟩) | (go_at_call 67; refine K.mono ?_; intro e w9 H9; have HE := Hid.mk H9; obtain ⟨rfl, _⟩ := H9))
  go_end0
  exact HE.out
theorem arr_any (h : Run w G rb mb mv s sh) {j n : Nat} {v : Value} (hv : pPrw G j n v) {l : List Nat} (hr : s.rows[j]? = some l) (hn : n = l.length) (ha : Args s.th 13 l) (hw : s.ws.length ≤ 1000000000) : Calls Tryz.prog 89 #[ptr rb, v] w (Out w G rb mb mv (primS s 13 l) sh) := by
  obtain ⟨g, cap, rfl, hg⟩ := prw_get h.rep hv hr hn
  have ln : l.length = 2 := by have := ha.1; simp [tA] at this; omega
  obtain ⟨b, cb, hb⟩ := hg 0 (by omega)
  obtain ⟨b1, cb1, hb1⟩ := hg 1 (by omega)
  obtain ⟨m, hm⟩ := Known.num (show Known s.th (l.getD 0 0) 2 from ha.2.2 0 (by decide))
  obtain ⟨tv, c, e, hc, q⟩ := h.rep.cont b _ hb
  rw [hm] at e
  cases e
  cases q
  have c1 := (show Bx w b _ 91 from hc).cell 1
  have et : thAt s (l.getD 0 0) = .num m := thAt_some hm
  by_cases r : m < 0 ∨ 1024 < m
  · have ep : primS s 13 l = failS s 46 := by unfold primS; simp only [et, numOf]; simp [r]
    have K := fails_any h 46 hw
    rw [ep, hn, ln]
    by_cases r0 : m < 0
    · have g0 : decide (m < 0) = true := decide_eq_true r0
      clear h hv hg hr ha hn hb hb1 hm hc et r ep
      go_enter Tryz.func89, Tryz.ntmps89
      go_wp2_with (go_at_call 75; refine K.mono ?_; intro e w9 H9; have HE := Hid.mk H9; obtain ⟨rfl, _⟩ := H9)
      go_end0
      exact HE.out
    · have g0 : decide (m < 0) = false := decide_eq_false r0
      have g1 : decide (1024 < m) = true := decide_eq_true (by omega)
      clear h hv hg hr ha hn hb hb1 hm hc et r ep
      go_enter Tryz.func89, Tryz.ntmps89
      go_wp2_with (go_at_call 75; refine K.mono ?_; intro e w9 H9; have HE := Hid.mk H9; obtain ⟨rfl, _⟩ := H9)
      go_end0
      exact HE.out
  · have r0 : ¬ m < 0 := by omega
    have r1 : ¬ 1024 < m := by omega
    have ep : primS s 13 l = tellNew s (.arr (List.replicate m.toNat (l.getD 1 0))) := by unfold primS; simp only [et, numOf]; rw [if_neg r]; simp
    have K := tellNew_out h (t := .arr (List.replicate m.toNat (l.getD 1 0))) (c := thC 5 m nilp nilp (ptr b1) nils nilm 0) ⟨ptr b1, l.getD 1 0, nilm, pT.le (le_tag (h.rep.free (Nat.le_refl _)) _) ⟨b1, rfl, hb1⟩, by rw [List.length_replicate, Int.toNat_of_nonneg (by omega)], .inl ⟨rfl, by rw [List.length_replicate]⟩⟩
    rw [ep, hn, ln]
    have g0 : decide (m < 0) = false := decide_eq_false r0
    have g1 : decide (1024 < m) = false := decide_eq_false r1
    clear h hv hg hr ha hn hb hb1 hm hc et r ep
    go_enter Tryz.func89, Tryz.ntmps89
    go_wp2_with (go_at_call 67; refine K.mono ?_; intro e w9 H9; have HE := Hid.mk H9; obtain ⟨rfl, _⟩ := H9)
    go_end0
    exact HE.out
end
end Go.Proofs.YtbajpejnnfacbaaGreatDoor.Lz
