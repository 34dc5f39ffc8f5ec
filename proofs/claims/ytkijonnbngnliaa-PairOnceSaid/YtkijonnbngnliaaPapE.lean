/-
  The program's pairing: a message, a copy; calls of one that is not there.
-/
import Derived.Test.YtkijonnbngnliaaPapD
import Derived.Test.YtkijonnbngnliaaPapC
import Derived.Deep.RegionWith
namespace Go.Proofs.Ytkijonnbngnliaa
open Go.RowKit
set_option linter.unusedVariables false

-- [MSG
/-- What a message leaves and tells, behind both pointers. -/
def MsgToldP (g : Pg) (m : Int) (x : Ms) (p q e hb : Nat) (w : World) (y : Ending) (w' : World) : Prop :=
  ∃ hb', y = .returned (.tuple #[pdV (g.msgP m x), .bool (g.msgP m x).isSome]) ∧ PaiAt w' p q e hb' (g.msg m x) ∧ (hb' = hb ∨ w.heap.size ≤ hb') ∧ Far (fun b => b = q ∨ b = e) w w'
set_option maxRecDepth 100000 in
set_option maxHeartbeats 4000000 in
theorem pai_Message (w : World) (p q e hb : Nat) (g : Pg) (m : Int) (x : Ms) (h : PaiAt w p q e hb g) (hm : m ≤ 9223372036854775807) :
    Calls Try.prog 9 #[.pointer (some ⟨p, 0, none⟩), .int .i64 m, x.value] w (MsgToldP g m x p q e hb w) := by
  have HH := Lib.hid h
  obtain ⟨P, HP⟩ : ∃ P, Hid ((g.msgP m x).getD noPd = P) := ⟨_, Lib.hid rfl⟩
  have HM := fun w' (k : Grew w w') => Lib.hid (pag_msg w' q e hb g m x (h.pag.grew k) hm)
  have HI := fun w' (k : Grew w w') => Lib.hid (pai_inner w' p q (h.top.grew k))
  have hre : w.heap.size + 1 ≠ e := by have := h.pag.log.lt; omega
  have hrq : w.heap.size + 1 ≠ q := by have := h.pag.at_.lt; omega
  have hbe : w.heap.size ≠ e := by have := h.pag.log.lt; omega
  have hbq : w.heap.size ≠ q := by have := h.pag.at_.lt; omega
  have HPost : Hid (∀ V1 V2 W' hb', Grew w V1 → PagAt V2 q e hb' (g.msg m x) → (hb' = hb ∨ V1.heap.size ≤ hb') → Far (fun b => b = q ∨ b = e) V1 V2 → w.heap.size + 2 ≤ V1.heap.size → Far (fun b => b = w.heap.size + 1) V2 W' → MsgToldP g m x p q e hb w (.returned (.tuple #[P.value, .bool (g.msgP m x).isSome])) W') := Lib.hid (fun V1 V2 W' hb' g1 h2 hh f2 sz f3 => by
    have hp := HH.out
    have FF : Far (fun b => b = q ∨ b = e) w W' := ((Far.of_grew g1).trans f2).beyond f3 (fun x e => .inr (by omega))
    refine ⟨hb', ?_, ⟨hp.top.far FF (fun h => by rcases h with h | h; exact hp.pq h; exact hp.pe h), ⟨h2.at_.far f3 (fun h => hrq h.symm), h2.log.far f3 (fun h => hre h.symm), fun y hy => ?_, h2.qe, h2.hq, h2.he, Nat.lt_of_lt_of_le h2.hl f3.size, h2.ok⟩, hp.pq, hp.pe⟩, by omega, FF⟩
    · unfold pdV; rw [HP.out]
    · refine (h2.wait y hy).far f3 (fun e => ?_)
      have := hp.pag.hl
      omega)
  have HPv : (g.msgP m x).getD noPd = P := HP.out
  unfold Ms.value
  unfold MsgTold pdV Ms.value at HM
  unfold Pd.value at HPost
  rw [HPv] at HM
  unfold Pd.value at HM
  generalize (g.msgP m x).isSome = sm at *
  obtain ⟨k, u, sc, l, cy, n⟩ := x
  simp only at HM
  go_enter Try.func9, Try.ntmps9
  go_upto_region 1 with fail
  generalize hV : World.alloc (World.alloc _ _) _ = V
  have GV : Grew w V := by rw [← hV]; exact ((Grew.refl w).alloc _).alloc _
  have BX : Hid (At V w.heap.size (msC ⟨k, u, sc, l, cy, n⟩)) := Lib.hid (by
    rw [← hV]
    exact (At.new w (msC ⟨k, u, sc, l, cy, n⟩) _).grew ((Grew.refl _).alloc _))
  have HR : Hid (At V (w.heap.size + 1) noPdC) := Lib.hid (by
    rw [← hV]
    have := At.new (w.alloc (.cells (msC ⟨k, u, sc, l, cy, n⟩).toArray 33)) noPdC 38
    rw [show (w.alloc (.cells (msC ⟨k, u, sc, l, cy, n⟩).toArray 33)).heap.size = w.heap.size + 1 by simp] at this
    exact this)
  have sz : V.heap.size = w.heap.size + 2 := by rw [← hV]; simp
  have HM2 := fun w' (k : Grew V w') => HM w' (GV.trans k)
  have HI2 := fun w' (k : Grew V w') => HI w' (GV.trans k)
  have HPost2 : Hid (∀ V1 V2 W' hb', Grew V V1 → PagAt V2 q e hb' (g.msg m ⟨k, u, sc, l, cy, n⟩) → (hb' = hb ∨ V1.heap.size ≤ hb') → Far (fun b => b = q ∨ b = e) V1 V2 → Far (fun b => b = w.heap.size + 1) V2 W' → MsgToldP g m ⟨k, u, sc, l, cy, n⟩ p q e hb w (.returned (.tuple #[.agg #[.int .i64 P.edge, .int .u8 P.msg.kind, .bool P.msg.utc, .int .i64 P.msg.sec, .bool P.msg.leap, .int .i64 P.msg.cycle, .bool P.msg.next], .bool sm])) W') := Lib.hid (fun V1 V2 W' hb' g1 h2 hh f2 f3 =>
    HPost.out V1 V2 W' hb' (GV.trans g1) h2 hh f2 (by have := g1.size; omega) f3)
  obtain ⟨b0, b1, b2, b3, b4, b5⟩ := At.six BX.out
  have ltb := BX.out.lt
  have SZ := Lib.hid sz
  have hrlt := HR.out.lt
  clear hV HM HI HPost h sz GV HPv
  have G : Grew V V.drew := (Grew.refl V).drew
  generalize w.heap.size + 1 = r at *
  go_region_with (first
    | (go_at_call 18; refine (HI2 _ G).out.mono ?_; rintro y w1 ⟨rfl, hw1⟩; subst hw1)
    | (go_at_call 20; refine (HM2 _ G).out.mono ?_; rintro y w2 hy; obtain ⟨hb', rfl, h2, hh, f2⟩ := hy; have hend := Lib.hid (fun W' => HPost2.out _ w2 W' hb' G h2 hh f2); have HR2 := (HR.out.grew G).far f2 (by omega); obtain ⟨⟨r0, r1, r2, r3, r4, r5, r6⟩, y0, y1, y2, y3, y4, y5, y6⟩ := At.seven HR2; have ltr := HR2.lt; clear HR2 h2 f2 hh))
  all_goals go_wp2_with fail
  all_goals refine bodyPost_ret (by simp [results, Try.results9, go_sem, r0, r1, r2, r3, r4, r5, r6]; try rfl) rfl ?_
  all_goals refine hend.out _ ?_
  all_goals repeat (first | (with_reducible exact Far.refl _ _) | (with_reducible refine Far.drewF ?_) | (with_reducible refine Far.setCell (F := fun b => b = r) ?_ (p := ⟨r, _, none⟩) rfl _))
-- MSG]
end Go.Proofs.Ytkijonnbngnliaa
