/-
  Contracts of the document's stamps: how far a second is from a pivot.
-/
import Derived.Test.YtodpoecefbgcpaaRefL
namespace Go.Proofs.Ytodpoecefbgcpaa
open Go.RowKit
set_option linter.unusedVariables false

/-- A block that holds a number, and may be written to. -/
def Open (w : World) (b : Nat) (n : Int) (L : Nat) : Prop := Boxed w b n L ∧ w.frozen? ⟨b, 0, none⟩ = false ∧ w.frozen? ⟨b, 1, none⟩ = false
theorem open1 {w : World} {bo : Bool} {A : Option Addr} {m c : Nat} {n : Int} {L : Nat} (h : NumT w (.agg #[.bool bo, .slice A m c]) n L) (E : TypeId) : Open (w.alloc (.cells #[.bool bo, .slice A m c] E)) w.heap.size n L :=
  ⟨⟨bo, A, m, c, by simp, by simp, h.grew ((Grew.refl _).alloc _)⟩, by simp [go_sem], by simp [go_sem]⟩
theorem open2 {w : World} {bo : Bool} {A : Option Addr} {m c : Nat} {n : Int} {L : Nat} (h : NumT w (.agg #[.bool bo, .slice A m c]) n L) {b : Nat} (B : Blank w b) : Open ((w.setCell ⟨b, 0, none⟩ (.bool bo)).setCell ⟨b, 1, none⟩ (.slice A m c)) b n L := by
  have hf := filled (x := .bool bo) (y := .slice A m c) B
  exact ⟨⟨bo, A, m, c, hf.1, hf.2, h.fill B⟩, by simpa [go_sem] using B.f0, by simpa [go_sem] using B.f1⟩
theorem two_fresh (w : World) (a b c d : Value) (E : TypeId) : ∃ W, (w.alloc (.cells #[a, b] E)).alloc (.cells #[c, d] E) = W ∧ Grew w W ∧
    W.cell? ⟨w.heap.size, 0, none⟩ = some a ∧ W.cell? ⟨w.heap.size, 1, none⟩ = some b ∧ W.cell? ⟨w.heap.size + 1, 0, none⟩ = some c ∧ W.cell? ⟨w.heap.size + 1, 1, none⟩ = some d ∧
    W.frozen? ⟨w.heap.size + 1, 0, none⟩ = false ∧ W.frozen? ⟨w.heap.size + 1, 1, none⟩ = false ∧ w.heap.size + 1 < W.heap.size := by
  refine ⟨_, rfl, ((Grew.refl _).alloc _).alloc _, ?_, ?_, ?_, ?_, ?_, ?_, by simp⟩ <;> simp [go_sem]
theorem NumT.abs {w : World} {bo : Bool} {A : Option Addr} {m c : Nat} {n : Int} {L : Nat} (h : NumT w (.agg #[.bool bo, .slice A m c]) n L) : NumT w (.agg #[.bool false, .slice A m c]) (n.natAbs : Int) L := by
  obtain ⟨sl, xs, h1, h2, h3, h4, h5, h6⟩ := h
  simp only [Value.agg.injEq, Array.mk.injEq, List.cons.injEq, and_true] at h1
  refine ⟨sl, xs, ?_, h2, h3, by rw [h4]; omega, h5, h6⟩
  rw [← h1.2, decide_eq_false (by omega)]

set_option maxHeartbeats 2000000 in
theorem ref02_far (v : Value) (x pv : Int) (L : Nat) (w : World) (hx : Num w v x L) (hl : L ≤ 900000) (hp : -9223372036854775808 ≤ pv ∧ pv ≤ 9223372036854775807) :
    Calls Try.prog 30 #[v, .int .i64 pv] w (Tells w ((x - pv).natAbs : Int) (max L 2 + 1)) := by
  obtain ⟨A, n, c, rfl⟩ := hx.form
  generalize hbx : decide (x < 0) = bx at *
  clear hbx
  obtain ⟨z, hz⟩ : ∃ z, x - pv = z := ⟨_, rfl⟩
  rw [hz]
  have HZ := Lib.hid hz
  clear hz
  go_enter Try.func30, Try.ntmps30
  go_wp2_with fail
  obtain ⟨W, hW, g0, x0, x1, r0, r1, f0, f1, hsz⟩ := two_fresh w (.bool bx) (.slice A n c) (.bool false) (.slice none 0 0) 40
  rw [hW]
  clear hW
  have e1 : w.heap.size < W.heap.size := by omega
  have G : Grew W W.drew := (Grew.refl W).drew
  go_cut [5] (fun s wx => ∃ b, s = .pointer (some ⟨b, 0, none⟩) ∧ W.heap.size ≤ b ∧ Open wx b z (max L 2 + 1) ∧ Grew W wx)
  case first =>
    go_region_held3 (fun w' => w'.cell? ⟨w.heap.size, 0, none⟩ = some (.bool bx) ∧ w'.cell? ⟨w.heap.size, 1, none⟩ = some (.slice A n c))
      (exact two_keep (by repeat (first | (with_reducible exact G) | (with_reducible exact Grew.refl _) | (with_reducible refine Grew.alloc ?_ _) | (with_reducible refine Grew.setAt ?_ (by omega) _) | (with_reducible refine Grew.drew ?_))) e1 x0 x1)
      (first
        | (go_at_call 20; refine (ref_Of pv _ hp).mono ?_; rintro e w1 ⟨v1, rfl, hN1, hg1⟩; replace G := (Grew.trans (a := W) (by repeat (first | (with_reducible exact G) | (with_reducible exact Grew.refl _) | (with_reducible refine Grew.alloc ?_ _) | (with_reducible refine Grew.setAt ?_ (by omega) _) | (with_reducible refine Grew.drew ?_))) hg1); have hs1 := G.size; (first | (refine with_fact (p := Blank w1 W.heap.size) ?_ ?_; exact (Blank.new W 40).drew.grew hg1; intro B1; have n1 := B1.lt) | skip))
        | (go_at_call 38; refine (ref_Sub (.agg #[.bool bx, .slice A n c]) _ x pv L 2 _ (hx.grew (g0.trans (by repeat (first | (with_reducible exact G) | (with_reducible exact Grew.refl _) | (with_reducible refine Grew.alloc ?_ _) | (with_reducible refine Grew.setAt ?_ (by omega) _) | (with_reducible refine Grew.drew ?_))))) (hN1.num.grew (by repeat (first | exact Grew.refl _ | refine Grew.alloc ?_ _))) hl (by omega)).mono ?_; rw [HZ.out]; rintro e w2 ⟨v2, rfl, hN2, hg2⟩; have g12 : Grew w1 w2 := Grew.trans (a := w1) (by repeat (first | exact Grew.refl _ | refine Grew.alloc ?_ _)) hg2; (first | (refine with_fact (p := Blank w2 W.heap.size) ?_ ?_; exact B1.grew g12; intro C1; obtain ⟨i10, i11, i12, i13, i14⟩ := id C1) | skip); (first | (refine with_fact (p := Blank w2 w1.heap.size) ?_ ?_; exact (Blank.new w1 40).grew hg2; intro D1; obtain ⟨j10, j11, j12, j13, j14⟩ := id D1) | skip); replace G := G.trans g12; have hs2 := G.size; obtain ⟨A2, n2, c2, rfl⟩ := hN2.form; generalize decide (z < 0) = qb at hN2 ⊢))
    all_goals go_wp2_with fail
    all_goals go_meet
    all_goals refine ⟨_, rfl, by omega, ?_, (by repeat (first | (with_reducible exact G) | (with_reducible exact Grew.refl _) | (with_reducible refine Grew.alloc ?_ _) | (with_reducible refine Grew.setAt ?_ (by omega) _) | (with_reducible refine Grew.drew ?_)))⟩
    all_goals first | (with_reducible exact open1 hN2 _) | (with_reducible exact open2 hN2 (by assumption))
  case rest =>
    obtain ⟨b, rfl, hb, ⟨⟨bo, A2, n2, c2, b0, b1, hN2⟩, fb0, fb1⟩, gc⟩ := hcut
    obtain ⟨k0, k1, k2, k3, k4⟩ := place_kept gc hsz r0 r1 f0 f1
    have hne : ¬b = w.heap.size + 1 := by omega
    go_wp2_with fail
    have o : ∀ {i j : Nat}, (⟨b, i, none⟩ : Addr) ≠ ⟨w.heap.size + 1, j, none⟩ := fun e => hne (by injection e)
    have q0 : (wc.setCell ⟨b, 0, none⟩ (.bool false)).cell? ⟨w.heap.size + 1, 0, none⟩ = some (.bool false) := by rw [World.cell?_setCell_other _ _ _ _ o]; exact k0
    have q1 : (wc.setCell ⟨b, 0, none⟩ (.bool false)).cell? ⟨w.heap.size + 1, 1, none⟩ = some (.slice none 0 0) := by rw [World.cell?_setCell_other _ _ _ _ o]; exact k1
    have hN3 : NumT (wc.setCell ⟨b, 0, none⟩ (.bool false)) (.agg #[.bool false, .slice A2 n2 c2]) (z.natAbs : Int) (max L 2 + 1) := hN2.abs.set b0 (fun _ _ h => by cases h)
    have g3 : Grew w (wc.setCell ⟨b, 0, none⟩ (.bool false)) := (g0.trans gc).setAt (by omega) _
    refine bodyPost_ret (by simp [results, Try.results30, go_sem, q0, q1]; try rfl) rfl ?_
    exact tells_of hN3 g3 q0 q1 (by omega)
end Go.Proofs.Ytodpoecefbgcpaa
