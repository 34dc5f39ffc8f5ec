/-
  The document's ring: a list behind a pointer.
-/
import Derived.Test.YtkoklmecijejkaaFar
namespace Go.Proofs.Ytkoklmecijejkaa
open Go.RowKit
set_option linter.unusedVariables false

/-- The document's ring in block g: its size, its bytes, how many were lost. -/
structure RefAt (w : World) (g size : Nat) (L : Value) (ns : List Nat) (lost : Nat) : Prop where
  lt : g < w.heap.size
  c0 : w.cell? ⟨g, 0, none⟩ = some (.int .i64 size)
  c1 : w.cell? ⟨g, 1, none⟩ = some L
  c2 : w.cell? ⟨g, 2, none⟩ = some (.int .i64 lost)
  f1 : w.frozen? ⟨g, 1, none⟩ = false
  f2 : w.frozen? ⟨g, 2, none⟩ = false
  row : Row .u8 w L ns
  own : ∀ b, L.ownBlock = some b → b < w.heap.size ∧ b ≠ g
theorem RefAt.far {F : Nat → Prop} {w w' : World} {g size : Nat} {L : Value} {ns : List Nat} {lost : Nat} (h : RefAt w g size L ns lost) (k : Far F w w') (hg : ¬ F g) (hL : ∀ b, L.ownBlock = some b → ¬ F b) : RefAt w' g size L ns lost :=
  ⟨Nat.lt_of_lt_of_le h.lt k.size, (k.cell (p := ⟨g, 0, none⟩) h.lt hg).trans h.c0, (k.cell (p := ⟨g, 1, none⟩) h.lt hg).trans h.c1, (k.cell (p := ⟨g, 2, none⟩) h.lt hg).trans h.c2,
   (k.frozen (p := ⟨g, 1, none⟩) h.lt hg).trans h.f1, (k.frozen (p := ⟨g, 2, none⟩) h.lt hg).trans h.f2, h.row.far k hL, fun b hb => ⟨Nat.lt_of_lt_of_le (h.own b hb).1 k.size, (h.own b hb).2⟩⟩
theorem RefAt.grew {w w' : World} {g size : Nat} {L : Value} {ns : List Nat} {lost : Nat} (h : RefAt w g size L ns lost) (k : Grew w w') : RefAt w' g size L ns lost := h.far (F := fun _ => False) (Far.of_grew k) (fun h => h) (fun _ _ h => h)

theorem refAt_put {w2 : World} {g size : Nat} {L L' : Value} {lost' : Nat} {ms : List Nat} {x y : Int} (lt : g < w2.heap.size) (e0 : w2.cell? ⟨g, 0, none⟩ = some (.int .i64 size)) (e1 : w2.cell? ⟨g, 1, none⟩ = some L) (e2 : w2.cell? ⟨g, 2, none⟩ = some (.int .i64 y))
    (q1 : w2.frozen? ⟨g, 1, none⟩ = false) (q2 : w2.frozen? ⟨g, 2, none⟩ = false) (hrow : Row .u8 w2 L' ms) (hown : ∀ b, L'.ownBlock = some b → b < w2.heap.size ∧ b ≠ g) (hx : x = ((lost' : Nat) : Int)) :
    RefAt ((w2.setCell ⟨g, 1, none⟩ L').setCell ⟨g, 2, none⟩ (.int .i64 x)) g size L' ms lost' := by
  subst hx
  have ne : ∀ {i j : Nat}, i ≠ j → (⟨g, i, none⟩ : Addr) ≠ ⟨g, j, none⟩ := fun hj e => hj (by injection e)
  have F1 := Far.one w2 ⟨g, 1, none⟩ L'
  have F2 := Far.one (w2.setCell ⟨g, 1, none⟩ L') ⟨g, 2, none⟩ (.int .i64 (lost' : Nat))
  have s2 := (World.cell?_setCell_other w2 ⟨g, 1, none⟩ ⟨g, 2, none⟩ L' (ne (by omega))).trans e2
  refine ⟨by simpa [World.setCell] using lt, ?_, ?_, World.cell?_setCell_same _ _ _ s2, by simpa [go_sem] using q1, by simpa [go_sem] using q2, (hrow.far F1 (fun b hb => (hown b hb).2)).far F2 (fun b hb => (hown b hb).2), fun b hb => ⟨by simpa [World.setCell] using (hown b hb).1, (hown b hb).2⟩⟩
  · rw [World.cell?_setCell_other _ _ _ _ (ne (by omega)), World.cell?_setCell_other _ _ _ _ (ne (by omega))]; exact e0
  · rw [World.cell?_setCell_other _ _ _ _ (ne (by omega))]; exact World.cell?_setCell_same _ _ _ e1
theorem far_put {w w2 : World} {g : Nat} {u v : Value} (D : Grew w w2) : Far (fun k => k = g) w ((w2.setCell ⟨g, 1, none⟩ u).setCell ⟨g, 2, none⟩ v) :=
  Far.setCell (F := fun k => k = g) (Far.setCell (F := fun k => k = g) (Far.of_grew D) (p := ⟨g, 1, none⟩) rfl u) (p := ⟨g, 2, none⟩) rfl v

def RefPut (g size : Nat) (ns xs : List Nat) (lost : Nat) (w : World) (e : Ending) (w' : World) : Prop :=
  ∃ L, e = .returned (.int .i64 ((ns.length + xs.length - size : Nat) : Int)) ∧ RefAt w' g size L ((ns ++ xs).drop (ns.length + xs.length - size)) (lost + (ns.length + xs.length - size)) ∧ (∀ b, L.ownBlock = some b → w.heap.size ≤ b) ∧ Far (fun k => k = g) w w'

set_option maxRecDepth 100000 in
set_option maxHeartbeats 2000000 in
theorem ref06_Put (g size : Nat) (L : Value) (ns : List Nat) (lost : Nat) (v : Value) (xs : List Nat) (w : World) (h : RefAt w g size L ns lost) (hv : Row .u8 w v xs) (hn : ns.length ≤ 100000) (hx : xs.length ≤ 100000) (hs : size ≤ 100000) (hl : lost ≤ 1000000000) :
    Calls Try.prog 10 #[.pointer (some ⟨g, 0, none⟩), v] w (RefPut g size ns xs lost w) := by
  obtain ⟨lt, c0, c1, c2, f1, f2, row, own⟩ := h
  have hO := Own.lit w .u8 5 w.heap.size (Nat.le_refl _) [] (by decide)
  have G0 := (Grew.refl w).alloc (.cells #[] 5)
  have hR0 := row.grew G0
  have k1 : ∀ o : Obj, (w.alloc o).cell? ⟨g, 1, none⟩ = some L := fun o => (((Grew.refl w).alloc o).cell (p := ⟨g, 1, none⟩) lt).trans c1
  have HK := Lib.hid (k1 (.cells #[] 5))
  clear k1
  have k1 := HK.out
  obtain ⟨N, HN⟩ : ∃ N, Hid (ns.length + xs.length = N) := ⟨_, Lib.hid rfl⟩
  have hN := HN.out
  have HNL : Hid ((ns ++ xs).length = N) := by show _ = _; rw [List.length_append, HN.out]
  have hNb : N ≤ 200000 := by omega
  have HPOST : ∀ L w', Hid (RefAt w' g size L ((ns ++ xs).drop (N - size)) (lost + (N - size)) → (∀ b, L.ownBlock = some b → w.heap.size ≤ b) → Far (fun k => k = g) w w' → RefPut g size ns xs lost w (.returned (.int .i64 ((N - size : Nat) : Int))) w') := fun L w' => by
    intro a b c
    rw [← HN.out] at a ⊢
    exact ⟨L, rfl, a, b, c⟩
  have HLT := Lib.hid lt
  clear hN
  have hlt2 : 0 ≤ (size : Int) := by omega
  by_cases hov : size < N
  · obtain ⟨o, rfl⟩ : ∃ o, N = size + o := ⟨N - size, by omega⟩
    rw [show size + o - size = o by omega] at HPOST
    go_enter Try.func10, Try.ntmps10
    go_wp2_with (first | (refine wpList_joinN _ rfl _ _ 23 rfl w.heap.size 5 .u8 1 Try.underlying23 infoU8 (.slice (some ⟨w.heap.size, 0, none⟩) 0 0) [] rfl hO L ns rfl hR0 (by simp; omega) (by decide) (by simp) ?_; intro v1 w1 hown hgrow hnil; rw [List.nil_append] at hown; have D1 := Grew.push G0 hO hgrow; have hs1 := D1.size; have hV1 := hv.grew D1) | (refine wpList_joinN _ rfl _ _ 23 rfl w.heap.size 5 .u8 1 Try.underlying23 infoU8 v1 ns rfl hown v xs rfl hV1 (by omega) (by decide) hs1 ?_; intro v2 w2 hown2 hgrow2 hnil2; have D2 := Grew.push D1 hown hgrow2; have e0 := (D2.cell (p := ⟨g, 0, none⟩) HLT.out).trans c0; have e1 := (D2.cell (p := ⟨g, 1, none⟩) HLT.out).trans c1; have e2 := (D2.cell (p := ⟨g, 2, none⟩) HLT.out).trans c2; have q1 := (D2.frozen (p := ⟨g, 1, none⟩) HLT.out).trans f1; have q2 := (D2.frozen (p := ⟨g, 2, none⟩) HLT.out).trans f2; have hh := hown2.head (hnil2 (hnil (by simp))); rw [HNL.out] at hh; obtain ⟨b2, cp, rfl, hb2, hlt3, hcp⟩ := hh))
    case inl =>
      have hg2 := Nat.lt_of_lt_of_le HLT.out D2.size
      have hrow := hown2.row.cut o (by rw [HNL.out]; omega)
      have hcpo : cp = o := by omega
      rw [if_pos hcpo, hcpo, show size + o - o = size by omega, show o - o = 0 by omega] at hrow
      go_ret
      rw [show ((size : Int) + o - size) = ((o : Nat) : Int) by omega]
      exact (HPOST _ _).out (refAt_put hg2 e0 e1 e2 q1 q2 hrow (fun b hb => by cases hb; exact ⟨hlt3, by have := HLT.out; show b2 ≠ g; omega⟩) (by omega)) (fun b hb => by cases hb; exact hb2) (far_put D2)
    case inr.inr =>
      have hg2 := Nat.lt_of_lt_of_le HLT.out D2.size
      have hrow := hown2.row.cut o (by rw [HNL.out]; omega)
      have hcp2 : cp ≠ o := by intro e; simp_all
      rw [if_neg hcp2, show size + o - o = size by omega, Nat.zero_add] at hrow
      go_ret
      rw [show ((size : Int) + o - size) = ((o : Nat) : Int) by omega]
      exact (HPOST _ _).out (refAt_put hg2 e0 e1 e2 q1 q2 hrow (fun b hb => by cases hb; exact ⟨hlt3, by have := HLT.out; show b2 ≠ g; omega⟩) (by omega)) (fun b hb => by cases hb; exact hb2) (far_put D2)
  · rw [show N - size = 0 by omega] at HPOST
    go_enter Try.func10, Try.ntmps10
    go_wp2_with (first | (refine wpList_joinN _ rfl _ _ 23 rfl w.heap.size 5 .u8 1 Try.underlying23 infoU8 (.slice (some ⟨w.heap.size, 0, none⟩) 0 0) [] rfl hO L ns rfl hR0 (by simp; omega) (by decide) (by simp) ?_; intro v1 w1 hown hgrow hnil; rw [List.nil_append] at hown; have D1 := Grew.push G0 hO hgrow; have hs1 := D1.size; have hV1 := hv.grew D1) | (refine wpList_joinN _ rfl _ _ 23 rfl w.heap.size 5 .u8 1 Try.underlying23 infoU8 v1 ns rfl hown v xs rfl hV1 (by omega) (by decide) hs1 ?_; intro v2 w2 hown2 hgrow2 hnil2; have D2 := Grew.push D1 hown hgrow2; have e0 := (D2.cell (p := ⟨g, 0, none⟩) HLT.out).trans c0; have e1 := (D2.cell (p := ⟨g, 1, none⟩) HLT.out).trans c1; have e2 := (D2.cell (p := ⟨g, 2, none⟩) HLT.out).trans c2; have q1 := (D2.frozen (p := ⟨g, 1, none⟩) HLT.out).trans f1; have q2 := (D2.frozen (p := ⟨g, 2, none⟩) HLT.out).trans f2; have hh := hown2.head (hnil2 (hnil (by simp))); rw [HNL.out] at hh; obtain ⟨b2, cp, rfl, hb2, hlt3, hcp⟩ := hh))
    have hg2 := Nat.lt_of_lt_of_le HLT.out D2.size
    have hrow := hown2.row
    go_ret
    exact (HPOST _ _).out (refAt_put hg2 e0 e1 e2 q1 q2 (by rw [List.drop_zero]; exact hrow) (fun b hb => by cases hb; exact ⟨hlt3, by have := HLT.out; show b2 ≠ g; omega⟩) (by omega)) (fun b hb => by cases hb; exact hb2) (far_put D2)
end Go.Proofs.Ytkoklmecijejkaa
