/-
  The document's ring and the program's, side by side: how their blocks lie.
-/
import Derived.Test.YtabbfgidgcnddaaRngL
import Derived.Deep.RegionHeldLaw
import Derived.Deep.DeepCutAuto
import Derived.Deep.CutBlock
namespace Go.Proofs.Ytabbfgidgcnddaa
open Go.RowKit
set_option linter.unusedVariables false

/-- A call: its kind, its number, its bytes. -/
structure ROp where
  k : Int
  n : Int
  b : List Nat
def opAt (l : List ROp) (i : Nat) : ROp := l.getD i ⟨0, 0, []⟩
structure OpOk (o : ROp) : Prop where
  k : -9223372036854775808 ≤ o.k ∧ o.k ≤ 9223372036854775807
  n : -9223372036854775808 ≤ o.n ∧ o.n ≤ 9223372036854775807
  b : Bytes o.b
  l : o.b.length ≤ 140737488355328
/-- A slice of such calls. -/
def OpsAt (w : World) (v : Value) (l : List ROp) : Prop :=
  ∃ A c, v = .slice A l.length c ∧ l.length ≤ c ∧ (0 < l.length → ∃ b o, A = some ⟨b, o, none⟩ ∧ b < w.heap.size ∧ ∀ i, i < l.length → ∃ A' c', w.cell? ⟨b, o + i * 3, none⟩ = some (.int .i64 (opAt l i).k) ∧ w.cell? ⟨b, o + i * 3 + 1, none⟩ = some (.int .i64 (opAt l i).n) ∧
    w.cell? ⟨b, o + i * 3 + 2, none⟩ = some (.slice A' (opAt l i).b.length c') ∧ Row .u8 w (.slice A' (opAt l i).b.length c') (opAt l i).b)
theorem OpsAt.grew {w w' : World} {v : Value} {l : List ROp} (h : OpsAt w v l) (g : Grew w w') : OpsAt w' v l := by
  obtain ⟨A, c, rfl, hc, hr⟩ := h
  refine ⟨A, c, rfl, hc, fun hn => ?_⟩
  obtain ⟨b, o, rfl, hb, hcell⟩ := hr hn
  refine ⟨b, o, rfl, Nat.lt_of_lt_of_le hb g.size, fun i hi => ?_⟩
  obtain ⟨A', c', h1, h2, h3, h4⟩ := hcell i hi
  exact ⟨A', c', (g.cell (p := ⟨b, o + i * 3, none⟩) hb).trans h1, (g.cell (p := ⟨b, o + i * 3 + 1, none⟩) hb).trans h2, (g.cell (p := ⟨b, o + i * 3 + 2, none⟩) hb).trans h3, h4.grew g⟩
/-- All bytes of the first k. -/
def opSum (l : List ROp) : Nat → Nat
  | 0 => 0
  | k + 1 => opSum l k + (opAt l k).b.length

theorem opSum_mono (l : List ROp) {j k : Nat} (h : j ≤ k) : opSum l j ≤ opSum l k := by
  induction k with
  | zero => rw [show j = 0 by omega]; exact Nat.le_refl _
  | succ k ih =>
    by_cases e : j = k + 1
    · rw [e]; exact Nat.le_refl _
    · exact Nat.le_trans (ih (by omega)) (by rw [opSum]; omega)
/-- Both rings hold the same, apart from each other, in blocks from W0 on. -/
structure Both (R : World → Value → (Nat → Prop) → Nat → List Nat → Nat → Prop) (W0 w : World) (rg : Nat) (F : Nat → Prop) (g size : Nat) (L : Value) (ns : List Nat) (lost : Nat) : Prop where
  r : R w (.pointer (some ⟨rg, 0, none⟩)) F size ns lost
  ref : RefAt w g size L ns lost
  f0 : ∀ b, F b → W0.heap.size ≤ b
  g0 : W0.heap.size ≤ g
  l0 : ∀ b, L.ownBlock = some b → W0.heap.size ≤ b
  fg : ¬ F g
  fl : ∀ b, L.ownBlock = some b → ¬ F b
theorem both_new {R : World → Value → (Nat → Prop) → Nat → List Nat → Nat → Prop} {W0 w : World} {rg : Nat} {F : Nat → Prop} (size : Nat) (h : R w (.pointer (some ⟨rg, 0, none⟩)) F size [] 0) (hF : ∀ b, F b → W0.heap.size ≤ b) (G : Grew W0 w) (E : TypeId)
    (hlt : ∀ b, F b → b < w.heap.size) (hk : ∀ {w'}, Grew w w' → R w' (.pointer (some ⟨rg, 0, none⟩)) F size [] 0) :
    Both R W0 (w.alloc (.cells #[.int .i64 (size : Nat), .slice none 0 0, .int .i64 0] E)) rg F w.heap.size size (.slice none 0 0) [] 0 := by
  refine ⟨hk ((Grew.refl w).alloc _), ⟨by simp, ?_, ?_, ?_, ?_, ?_, Row.nil _ _, (fun b hb => by cases hb)⟩, hF, G.size, (fun b hb => by cases hb), fun h => Nat.lt_irrefl _ (hlt _ h), (fun b hb => by cases hb)⟩ <;> simp [go_sem]

/-- A block of the call's own is none of the two rings'. -/
structure Apart (F : Nat → Prop) (g : Nat) (L : Value) (bi : Nat) : Prop where
  f : ¬ F bi
  g : g ≠ bi
  l : ∀ b, L.ownBlock = some b → b ≠ bi
theorem both_grew {R : World → Value → (Nat → Prop) → Nat → List Nat → Nat → Prop} {T : World → Prop} {P : RingCalls R T} {W0 w w' : World} {rg : Nat} {F : Nat → Prop} {g size : Nat} {L : Value} {ns : List Nat} {lost : Nat} (h : Both R W0 w rg F g size L ns lost) (k : Grew w w') : Both R W0 w' rg F g size L ns lost :=
  ⟨P.grew h.r k, h.ref.grew k, h.f0, h.g0, h.l0, h.fg, h.fl⟩
theorem both_apart {R : World → Value → (Nat → Prop) → Nat → List Nat → Nat → Prop} {W0 w : World} {rg : Nat} {F : Nat → Prop} {g size : Nat} {L : Value} {ns : List Nat} {lost bi : Nat} (hlt : ∀ b, F b → b < w.heap.size) (h : Both R W0 w rg F g size L ns lost) (hb : w.heap.size ≤ bi) : Apart F g L bi :=
  ⟨fun hf => by have := hlt _ hf; omega, by have := h.ref.lt; omega, fun b hb' => by have := (h.ref.own b hb').1; omega⟩
/-- How the two rings' blocks and that of 'in' lie, in a world. -/
structure St (W0 W : World) (g bi : Nat) (F : Nat → Prop) (L : Value) : Prop where
  fg : ¬ F g
  fl : ∀ b, L.ownBlock = some b → ¬ F b
  ap : Apart F g L bi
  f0 : ∀ b, F b → W0.heap.size ≤ b
  l0 : ∀ b, L.ownBlock = some b → W0.heap.size ≤ b
  flt : ∀ b, F b → b < W.heap.size
  llt : ∀ b, L.ownBlock = some b → b < W.heap.size
  glt : g < W.heap.size
  blt : bi < W.heap.size
  wlt : W0.heap.size ≤ W.heap.size
theorem St.turnR {W0 W W' : World} {g bi : Nat} {F F1 : Nat → Prop} {L : Value} (h : St W0 W g bi F L) (hs : W.heap.size ≤ W'.heap.size) (hn : ∀ b, F1 b → F b ∨ W.heap.size ≤ b) (hl : ∀ b, F1 b → b < W'.heap.size) : St W0 W' g bi F1 L := by
  have key : ∀ b, b < W.heap.size → ¬ F b → ¬ F1 b := fun b hb hf h1 => (hn b h1).elim hf (fun h => by omega)
  exact ⟨key _ h.glt h.fg, fun b hb => key _ (h.llt b hb) (h.fl b hb), ⟨key _ h.blt h.ap.f, h.ap.g, h.ap.l⟩, fun b hb => (hn b hb).elim (h.f0 b) (fun h' => Nat.le_trans h.wlt h'), h.l0, hl, fun b hb => Nat.lt_of_lt_of_le (h.llt b hb) hs, Nat.lt_of_lt_of_le h.glt hs, Nat.lt_of_lt_of_le h.blt hs, Nat.le_trans h.wlt hs⟩
theorem St.turnL {W0 W W' : World} {g bi : Nat} {F : Nat → Prop} {L L1 : Value} (h : St W0 W g bi F L) (hs : W.heap.size ≤ W'.heap.size) (hn : ∀ b, L1.ownBlock = some b → W.heap.size ≤ b) (hl : ∀ b, L1.ownBlock = some b → b < W'.heap.size) : St W0 W' g bi F L1 :=
  ⟨h.fg, fun b hb hf => by have := h.flt b hf; have := hn b hb; omega, ⟨h.ap.f, h.ap.g, fun b hb e => by have := hn b hb; have := h.blt; omega⟩, h.f0, fun b hb => Nat.le_trans h.wlt (hn b hb), fun b hb => Nat.lt_of_lt_of_le (h.flt b hb) hs, hl, Nat.lt_of_lt_of_le h.glt hs, Nat.lt_of_lt_of_le h.blt hs, Nat.le_trans h.wlt hs⟩
theorem St.same {W0 W W' : World} {g bi : Nat} {F : Nat → Prop} {L L1 : Value} (h : St W0 W g bi F L) (hs : W.heap.size ≤ W'.heap.size) (hn : L1.ownBlock = L.ownBlock) : St W0 W' g bi F L1 :=
  ⟨h.fg, fun b hb => h.fl b (hn ▸ hb), ⟨h.ap.f, h.ap.g, fun b hb => h.ap.l b (hn ▸ hb)⟩, h.f0, fun b hb => h.l0 b (hn ▸ hb), fun b hb => Nat.lt_of_lt_of_le (h.flt b hb) hs, fun b hb => Nat.lt_of_lt_of_le (h.llt b (hn ▸ hb)) hs, Nat.lt_of_lt_of_le h.glt hs, Nat.lt_of_lt_of_le h.blt hs, Nat.le_trans h.wlt hs⟩
theorem St.both {R : World → Value → (Nat → Prop) → Nat → List Nat → Nat → Prop} {W0 W : World} {g bi rg size lost : Nat} {F : Nat → Prop} {L : Value} {ns : List Nat} (h : St W0 W g bi F L) (hg0 : W0.heap.size ≤ g) (r : R W (.pointer (some ⟨rg, 0, none⟩)) F size ns lost) (ref : RefAt W g size L ns lost) : Both R W0 W rg F g size L ns lost :=
  ⟨r, ref, h.f0, hg0, h.l0, h.fg, h.fl⟩
def RefPutR (g size : Nat) (ns xs : List Nat) (lost : Nat) (w : World) (e : Ending) (w' : World) : Prop :=
  ∃ L, e = .returned (.int .i64 ((ringOver size ns xs : Nat) : Int)) ∧ RefAt w' g size L (ringPut size ns xs) (lost + ringOver size ns xs) ∧ (∀ b, L.ownBlock = some b → w.heap.size ≤ b) ∧ Far (fun k => k = g) w w'
theorem own_lit_at (W : World) (n : Nat) (hn : n = W.heap.size) (E : TypeId) : Own W.heap.size E .u8 (W.alloc (.cells #[] E)) (.slice (some ⟨n, 0, none⟩) 0 0) [] := by
  subst hn; exact Own.lit W .u8 E W.heap.size (Nat.le_refl _) [] (by decide)

/-- A byte of a row of the call's own. -/
theorem own_cell {w : World} {B : Nat} {E : TypeId} {k : IntKind} {g c : Nat} {ns : List Nat} (h : Own B E k w (.slice (some ⟨g, 0, none⟩) ns.length c) ns) (j : Nat) (hj : j < ns.length) : w.cell? ⟨g, j, none⟩ = some (.int k (wd ns j : Nat)) := by
  obtain ⟨A', c', e, _, hr⟩ := h.row
  obtain ⟨b, o, rfl, _, hc⟩ := hr (by omega)
  simp only [Value.slice.injEq, Option.some.injEq, Addr.mk.injEq] at e
  obtain ⟨⟨rfl, rfl, _⟩, _, _⟩ := e
  have := hc j hj
  rwa [Nat.zero_add] at this
theorem bytes_set {ns : List Nat} (h : Bytes ns) (j x : Nat) (hx : x < 256) : Bytes (ns.set j x) := Bytes.of_mem (fun y hy => by
  rcases List.mem_or_eq_of_mem_set hy with h' | h'
  · obtain ⟨i, hi, rfl⟩ := List.getElem_of_mem h'
    have := h i; simp only [wd, List.getD_eq_getElem?_getD, List.getElem?_eq_getElem hi, Option.getD_some] at this; exact this
  · rw [h']; exact hx)
/-- What stands behind the third way: the ring is gone on with as its copy. -/
theorem copied_on {R : World → Value → (Nat → Prop) → Nat → List Nat → Nat → Prop} {T : World → Prop} (P : RingCalls R T) {W0 w2 w3 w4 w5 : World} {rg g g3 bi sz lost : Nat} {F F3 F4 : Nat → Prop} {L : Value} {ns : List Nat}
    (h : Both R W0 w2 rg F g sz L ns lost) (a : Apart F g L bi) (hbi : bi < w2.heap.size) (hW : Grew W0 w2) (hR3 : R w3 (.pointer (some ⟨g3, 0, none⟩)) F3 sz ns lost) (hF3 : ∀ b, F3 b → w2.heap.size ≤ b) (g23 : Grew w2 w3)
    (hF4 : ∀ b, F4 b → F b ∨ w3.heap.size ≤ b) (far4 : Far F w3 w4) (far5 : Far F4 w4 w5) :
    RefAt w5 g sz L ns lost ∧ Grew W0 w5 ∧ (∀ B E k v xs, Own B E k w2 v xs → (∀ b, v.ownBlock = some b → b = bi) → Own B E k w5 v xs) ∧
      (∀ w6 g6 L6, RefAt w6 g6 sz L6 ns lost → w5.heap.size ≤ g6 → (∀ b, L6.ownBlock = some b → w5.heap.size ≤ b) → Grew w5 w6 → Both R W0 w6 g3 F3 g6 sz L6 ns lost ∧ Apart F3 g6 L6 bi) := by
  have flt : ∀ b, F b → b < w2.heap.size := fun b hb => P.lt _ _ _ _ _ _ _ h.r hb
  have f3lt : ∀ b, F3 b → b < w3.heap.size := fun b hb => P.lt _ _ _ _ _ _ _ hR3 hb
  have key : ∀ b, b < w3.heap.size → ¬ F b → ¬ F4 b := fun b hb hf h4 => (hF4 b h4).elim hf (fun h' => by omega)
  have n3 := g23.size
  have s45 := far5.size
  have s34 := far4.size
  have glt := h.ref.lt
  have G4 : Grew W0 w4 := far4.grew (hW.trans g23) h.f0
  have G5 : Grew W0 w5 := far5.grew G4 (fun b hb => (hF4 b hb).elim (h.f0 b) (fun h' => by have := hW.size; omega))
  refine ⟨((h.ref.grew g23).far far4 h.fg h.fl).far far5 (key _ (by omega) h.fg) (fun b hb => key _ (by have := (h.ref.own b hb).1; omega) (h.fl b hb)), G5, fun B E k v xs ho hv => ?_, fun w6 g6 L6 hr hg hL g56 => ⟨⟨?_, hr, fun b hb => by have := hF3 b hb; have := hW.size; omega, by have := hW.size; omega, fun b hb => by have := hL b hb; have := hW.size; omega, fun hf => by have := f3lt _ hf; omega, fun b hb hf => by have := f3lt _ hf; have := hL b hb; omega⟩, ⟨fun hf => by have := hF3 _ hf; omega, fun e => by omega, fun b hb e => by have := hL b hb; omega⟩⟩⟩
  · exact Own.far (Own.far (Own.grew ho g23) far4 (fun b hb => by rw [hv b hb]; exact a.f)) far5 (fun b hb => by rw [hv b hb]; exact key _ (by omega) a.f)
  · refine P.grew (P.far _ _ _ _ _ _ _ _ (P.far _ _ _ _ _ _ _ _ hR3 far4 (fun b hb hf => by have := hF3 b hb; have := flt b hf; omega)) far5 (fun b hb h4 => ?_)) g56
    rcases hF4 b h4 with h' | h'
    · have := hF3 b hb; have := flt b h'; omega
    · have := f3lt b hb; omega
/-- What is far from both rings leaves them. -/
theorem both_far {R : World → Value → (Nat → Prop) → Nat → List Nat → Nat → Prop} {T : World → Prop} {P : RingCalls R T} {W0 w w' : World} {rg g sz lost bi : Nat} {F : Nat → Prop} {L : Value} {ns : List Nat} (h : Both R W0 w rg F g sz L ns lost) (a : Apart F g L bi) (k : Far (fun b => b = bi) w w') : Both R W0 w' rg F g sz L ns lost :=
  ⟨P.far _ _ _ _ _ _ _ _ h.r k (fun b hb e => a.f (e ▸ hb)), h.ref.far k a.g (fun b hb e => a.l b hb e), h.f0, h.g0, h.l0, h.fg, h.fl⟩
end Go.Proofs.Ytabbfgidgcnddaa
