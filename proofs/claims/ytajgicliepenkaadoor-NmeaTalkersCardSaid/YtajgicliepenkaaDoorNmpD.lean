/-
  The program's sentences: a reader's times.
-/
import Derived.Test.YtajgicliepenkaaDoorNmpC
namespace Go.Proofs.YtajgicliepenkaaDoor
open Go.RowKit
set_option linter.unusedVariables false

theorem FourAt.far {F : Nat → Prop} {w w' : World} {b : Nat} {x0 x1 x2 x3 : Value} (h : FourAt w b x0 x1 x2 x3) (g : Far F w w') (hb : ¬ F b) : FourAt w' b x0 x1 x2 x3 :=
  ⟨Nat.lt_of_lt_of_le h.lt g.size, (g.cell (p := ⟨b, 0, none⟩) h.lt hb).trans h.c0, (g.cell (p := ⟨b, 1, none⟩) h.lt hb).trans h.c1, (g.cell (p := ⟨b, 2, none⟩) h.lt hb).trans h.c2, (g.cell (p := ⟨b, 3, none⟩) h.lt hb).trans h.c3,
   (g.frozen (p := ⟨b, 0, none⟩) h.lt hb).trans h.f0, (g.frozen (p := ⟨b, 1, none⟩) h.lt hb).trans h.f1, (g.frozen (p := ⟨b, 2, none⟩) h.lt hb).trans h.f2, (g.frozen (p := ⟨b, 3, none⟩) h.lt hb).trans h.f3⟩
theorem newFour (w : World) (x0 x1 x2 x3 : Value) (E : TypeId) : ∃ W, w.alloc (.cells #[x0, x1, x2, x3] E) = W ∧ Grew w W ∧ FourAt W w.heap.size x0 x1 x2 x3 ∧ w.heap.size < W.heap.size :=
  ⟨_, rfl, (Grew.refl w).alloc _, FourAt.new w _ _ _ _ _, by simp⟩
theorem far_four (w : World) (b : Nat) (y0 y1 y2 y3 : Value) : Far (fun k => k = b) w (fourSet w b y0 y1 y2 y3) :=
  Far.setCell (F := fun k => k = b) (Far.setCell (F := fun k => k = b) (Far.setCell (F := fun k => k = b) (Far.one w ⟨b, 0, none⟩ y0) (p := ⟨b, 1, none⟩) rfl y1) (p := ⟨b, 2, none⟩) rfl y2) (p := ⟨b, 3, none⟩) rfl y3
section
variable {w w' : World} {S n c E X : Nat} {bs : List ByteArray} {s : Rs}
/-- A block that is none of a reader's is written. -/
theorem Rd.off (h : Rd w S n c bs E X s) {b : Nat} (g : Far (fun k => k = b) w w') (h1 : S ≠ b) (h2 : E ≠ b) (h3 : X ≠ b) : Rd w' S n c bs E X s :=
  ⟨h.len, h.cap, Nat.lt_of_lt_of_le h.hS g.size, fun j x hj => (g.cell (p := ⟨S, j, none⟩) h.hS h1).trans (h.fields j x hj), h.small, h.many, (g.block _ h.hE h2).trans h.err, (g.block _ h.hX h3).trans h.fix, h.SE, h.SX, h.EX⟩
set_option maxHeartbeats 1000000 in
theorem r_clock (h : Rd w S n c bs E X s) (j : Nat) (x : ByteArray) (hx : bs[j]? = some x) :
    Calls Tryd.prog 38 #[rv S n c E, .int .i64 (j : Nat)] w
      (Rdt w S n c bs E X (s.1, s.2 || badE (clockOf (nat x)).2) (.tuple #[.agg #[.int .i64 ((clockOf (nat x)).1.1 : Nat), .int .i64 ((clockOf (nat x)).1.2.1 : Nat), .int .i64 ((clockOf (nat x)).1.2.2.1 : Nat), .bool (clockOf (nat x)).1.2.2.2], .bool ((clockOf (nat x)).2 == 0)])) := by
  obtain ⟨W, hW, gW, ltW, d0, d1⟩ := boxR w S n c E
  obtain ⟨j0, j1, j2, hs⟩ := h.at_ hx
  obtain ⟨V, hV, gV, dV⟩ := newDay W 24
  have hc := (h.grew (gW.trans gV)).fields j x hx
  have e0 := (gV.cell (p := ⟨w.heap.size, 0, none⟩) ltW).trans d0
  have e1 := (gV.cell (p := ⟨w.heap.size, 1, none⟩) ltW).trans d1
  have HI := fun w => Lib.hid (fld_Clock x w hs)
  unfold dayVal at HI
  have HT := fun w' (g : Grew w w') => Lib.hid (r_there (h.grew g) _ (clock_err (nat x)))
  unfold Rdt at HT
  have G0 := Lib.hid (gW.trans gV)
  clear gW gV d0 d1
  have hSl := h.hS
  have hEl := h.hE
  have hXl := h.hX
  clear h hx
  generalize clockOf (nat x) = r at *
  obtain ⟨⟨r1, r2, r3, r4⟩, r5⟩ := r
  unfold rv at HT ⊢
  go_enter Tryd.func38, Tryd.ntmps38
  go_upto_region 1 with fail
  go_upto_region 2 with (go_at_call 50; refine (HI _).out.mono ?_; rintro e w1 ⟨rfl, g1⟩)
  obtain ⟨U, hU, gU, dU, ltU⟩ := newFour w1 (.int .i64 r1) (.int .i64 r2) (.int .i64 r3) (.bool r4) 24
  rw [hU]
  have hwV : W.heap.size < V.heap.size := dV.lt
  have GVU := g1.trans gU
  have hVs := g1.size
  have KS : ∀ w', Far (fun k => k = E ∨ k = W.heap.size) U w' → (w'.cell? ⟨w.heap.size, 0, none⟩ = some (.slice (some ⟨S, 0, none⟩) n c) ∧ w'.cell? ⟨w.heap.size, 1, none⟩ = some (.func (.func 9) #[] #[.pointer (some ⟨E, 0, none⟩)])) ∧
      (w'.cell? ⟨w1.heap.size, 0, none⟩ = some (.int .i64 r1) ∧ w'.cell? ⟨w1.heap.size, 1, none⟩ = some (.int .i64 r2) ∧ w'.cell? ⟨w1.heap.size, 2, none⟩ = some (.int .i64 r3) ∧ w'.cell? ⟨w1.heap.size, 3, none⟩ = some (.bool r4)) := fun w' g => by
    have l1 : w.heap.size < U.heap.size := by have := GVU.size; omega
    have q := dU.far g (fun e => by have e' : w1.heap.size = E ∨ w1.heap.size = W.heap.size := e; omega)
    exact ⟨⟨((g.cell (p := ⟨w.heap.size, 0, none⟩) l1 (fun e => by simp only at e; omega)).trans (GVU.cell (p := ⟨w.heap.size, 0, none⟩) (by simp only; omega))).trans e0, ((g.cell (p := ⟨w.heap.size, 1, none⟩) l1 (fun e => by simp only at e; omega)).trans (GVU.cell (p := ⟨w.heap.size, 1, none⟩) (by simp only; omega))).trans e1⟩, q.c0, q.c1, q.c2, q.c3⟩
  have KR : ∀ w', FarE E U w' → Hid (FourAt w' W.heap.size (.int .i64 0) (.int .i64 0) (.int .i64 0) (.bool false)) := fun w' g => Lib.hid ((dV.grew GVU).far g (fun e => by have e' : W.heap.size = E := e; omega))
  have G : Far (fun k => k = E ∨ k = W.heap.size) U U.drew := Far.of_grew (Grew.refl U).drew
  have GU := Lib.hid (G0.out.trans GVU)
  clear hU gU dU GVU g1 HI dV e0 e1 hc
  go_region_held3 (fun w' => (w'.cell? ⟨w.heap.size, 0, none⟩ = some (.slice (some ⟨S, 0, none⟩) n c) ∧ w'.cell? ⟨w.heap.size, 1, none⟩ = some (.func (.func 9) #[] #[.pointer (some ⟨E, 0, none⟩)])) ∧
      (w'.cell? ⟨w1.heap.size, 0, none⟩ = some (.int .i64 r1) ∧ w'.cell? ⟨w1.heap.size, 1, none⟩ = some (.int .i64 r2) ∧ w'.cell? ⟨w1.heap.size, 2, none⟩ = some (.int .i64 r3) ∧ w'.cell? ⟨w1.heap.size, 3, none⟩ = some (.bool r4)))
    (first | exact KS _ G | exact KS _ (G.trans ((far_four _ W.heap.size (.int .i64 r1) (.int .i64 r2) (.int .i64 r3) (.bool r4)).mono (fun k _ hk => .inr hk))))
    (first | (go_at_call 51; refine (HT _ (GU.out.trans (Grew.refl U).drew)).out.mono ?_; rintro e w2 ⟨rfl, hh, gg⟩; replace G := G.trans (gg.mono (fun k _ hk => .inl hk)); obtain ⟨_, a0, a1, a2, a3, b0, b1, b2, b3⟩ := (KR _ ((Far.of_grew (Grew.refl U).drew).trans gg)).out))
  go_wp2_with fail
  refine bodyPost_ret (by simp [results, Tryd.results38, go_sem, a0, a1, a2, a3]; try rfl) rfl ?_
  have FW := far_four w2 W.heap.size (.int .i64 r1) (.int .i64 r2) (.int .i64 r3) (.bool r4)
  exact ⟨rfl, hh.off FW (by omega) (by omega) (by omega), (((Far.of_grew GU.out).trans (Far.of_grew (Grew.refl U).drew)).trans gg).beyond FW (fun k hk => .inr (by have hk' : k = W.heap.size := hk; omega))⟩
end
end Go.Proofs.YtajgicliepenkaaDoor
