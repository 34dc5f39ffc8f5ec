/-
  The program's pairing: an edge, a message.
-/
import Derived.Test.YtkijonnbngnliaaPapB
namespace Go.Proofs.Ytkijonnbngnliaa
open Go.RowKit
set_option linter.unusedVariables false

-- [EDGE
set_option maxRecDepth 100000 in
set_option maxHeartbeats 4000000 in
theorem pai_Edge (w : World) (p q e hb : Nat) (g : Pg) (c : Int) (h : PaiAt w p q e hb g) (hm : c ≤ 9223372036854775807) :
    Calls Try.prog 8 #[.pointer (some ⟨p, 0, none⟩), .int .i64 c] w fun x w' => x = .returned (.tuple #[pdV (g.edgeP c), .bool (g.edgeP c).isSome]) ∧ PaiAt w' p q e hb (g.edge c) ∧ Far (fun b => b = q ∨ b = e) w w' := by
  have HH := Lib.hid h
  have hr0 := At.new w noPdC 38
  have gV := (Grew.refl w).alloc (.cells #[.int .i64 0, .int .u8 0, .bool false, .int .i64 0, .bool false, .int .i64 0, .bool false] 38)
  have HI := Lib.hid (pai_inner _ p q (h.grew gV).top)
  have HE := Lib.hid (pag_edge _ q e hb g c (h.pag.grew gV) hm)
  obtain ⟨P, HP⟩ : ∃ P, Hid ((g.edgeP c).getD noPd = P) := ⟨_, Lib.hid rfl⟩
  unfold pdV Pd.value at HE ⊢
  rw [HP.out] at HE ⊢
  generalize (g.edgeP c).isSome = sm at *
  obtain ⟨er, HER⟩ : ∃ er : Int, Hid ((if c < g.latest then (2 : Int) else 0) = er) := ⟨_, Lib.hid rfl⟩
  rw [HER.out] at HE
  have hre : w.heap.size ≠ e := by have := h.pag.log.lt; omega
  have hrq : w.heap.size ≠ q := by have := h.pag.at_.lt; omega
  have hrp : w.heap.size ≠ p := by have := h.top.lt; omega
  have hrb : ∀ x, g.waits = some x → hb < w.heap.size := fun x hx => (h.pag.wait x hx).lt
  have HR0 := Lib.hid hr0
  have HG := Lib.hid gV
  clear h hr0 gV
  go_enter Try.func8, Try.ntmps8
  go_upto_region 2 with (first
    | (go_at_call 18; refine HI.out.mono ?_; rintro x w1 ⟨rfl, hw1⟩; subst hw1)
    | (go_at_call 19; refine HE.out.mono ?_; rintro x w2 ⟨rfl, h2, f2⟩))
  have R2 := (HR0.out.grew ((Grew.refl _))).far f2 (by omega)
  have T3 := At.new w2 [.int .i64 P.edge, .int .u8 P.msg.kind, .bool P.msg.utc, .int .i64 P.msg.sec, .bool P.msg.leap, .int .i64 P.msg.cycle, .bool P.msg.next] 38
  have g3 := (Grew.refl w2).alloc (.cells [.int .i64 P.edge, .int .u8 P.msg.kind, .bool P.msg.utc, .int .i64 P.msg.sec, .bool P.msg.leap, .int .i64 P.msg.cycle, .bool P.msg.next].toArray 38)
  have R3 := R2.grew g3
  have hend : Hid (∀ W', Far (fun b => b = w.heap.size) (w2.alloc (.cells [.int .i64 P.edge, .int .u8 P.msg.kind, .bool P.msg.utc, .int .i64 P.msg.sec, .bool P.msg.leap, .int .i64 P.msg.cycle, .bool P.msg.next].toArray 38)) W' → PaiAt W' p q e hb (g.edge c) ∧ Far (fun b => b = q ∨ b = e) w W') := Lib.hid (fun W' f => by
    have hh := HH.out
    have k2 := h2.grew g3
    have sz : w.heap.size + 1 ≤ w2.heap.size := by have := f2.size; simpa using this
    have FF : Far (fun b => b = q ∨ b = e) w W' := ((Far.of_grew HG.out).trans (f2.trans (Far.of_grew g3))).beyond f (fun x e => .inr (by omega))
    refine ⟨⟨?_, ⟨k2.at_.far f (fun h => hrq h.symm), k2.log.far f (fun h => hre h.symm), fun x e => ?_, k2.qe, k2.hq, k2.he, Nat.lt_of_lt_of_le k2.hl f.size, k2.ok⟩, hh.pq, hh.pe⟩, FF⟩
    · exact hh.top.far FF (fun h => by rcases h with h | h; exact hh.pq h; exact hh.pe h)
    · have hx : g.waits = some x := by
        unfold Pg.edge at e
        split at e
        · exact e
        · cases e
      exact (k2.wait x e).far f (fun h => by have := hrb x hx; omega))
  generalize hV3 : w2.alloc _ = w3 at T3 R3 hend ⊢
  obtain ⟨⟨r0, r1, r2, r3, r4, r5, r6⟩, y0, y1, y2, y3, y4, y5, y6⟩ := At.seven R3
  obtain ⟨⟨t0, t1, t2, t3, t4, t5, t6⟩, -⟩ := At.seven T3
  have ltr := R3.lt
  have ltt := T3.lt
  generalize w.heap.size = r at *
  clear R2 R3 T3 g3 h2 f2 hV3
  go_wp2_with fail
  refine bodyPost_ret (by simp [results, Try.results8, go_sem, r0, r1, r2, r3, r4, r5, r6]; try rfl) rfl ?_
  refine ⟨rfl, hend.out _ ?_⟩
  repeat (first | (with_reducible exact Far.refl _ _) | (with_reducible refine Far.drewF ?_) | (with_reducible refine Far.setCell (F := fun b => b = r) ?_ (p := ⟨r, _, none⟩) rfl _))
-- EDGE]
end Go.Proofs.Ytkijonnbngnliaa
