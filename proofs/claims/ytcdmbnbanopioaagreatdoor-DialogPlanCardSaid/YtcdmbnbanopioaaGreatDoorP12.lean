/-
  The plans of a dialogue: the program's.
  The law of plans.
  What the row's list of tables gives: civil's lengths, strconv's powers, the kinds' letters and numbers.
-/
import Derived.Test.YtcdmbnbanopioaaGreatDoorP10
import Derived.Test.YtcdmbnbanopioaaGreatDoorP09
import Derived.Test.YtcdmbnbanopioaaGreatDoorP11
import Derived.Deep.RegionHeldLaw
import Derived.Test.YtcdmbnbanopioaaGreatDoorRows
import Derived.Test.YtcdmbnbanopioaaGreatDoorP08
import Derived.Lib.LaidTab
import Derived.Stop.LaidErr
import Derived.OpenShut
import Derived.ChangeSame

namespace Go.Proofs.YtcdmbnbanopioaaGreatDoor
open Go.RowKit
set_option linter.unusedVariables false

theorem prg_zda (w : World) (ht : Tabs w) : Calls Tryz.prog 21 #[.int .u8 5, .int .i64 1] w (WroteT zdaL w) := (prog_Rate 5 1 w (by decide) (by decide) ht).mono (fun e w' h => wrote_of _ h)
theorem prg_rmc (w : World) (ht : Tabs w) : Calls Tryz.prog 21 #[.int .u8 1, .int .i64 1] w (WroteT rmcL w) := (prog_Rate 1 1 w (by decide) (by decide) ht).mono (fun e w' h => wrote_of _ h)
theorem prg_ask (w : World) (ht : Tabs w) : Calls Tryz.prog 22 #[.int .u8 5, .int .i64 1] w (WroteT askL w) := (prog_Ask 5 1 w (by decide) (by decide) ht).mono (fun e w' h => wrote_of _ h)
theorem prg_sirf (w : World) : Calls Tryz.prog 24 #[.agg #[.int .u8 166, .slice (some ⟨w.heap.size, 0, none⟩) 3 3]] (w.alloc (.cells #[.int .i64 0, .int .i64 52, .int .i64 1] 2)) (WroteT sfL w) :=
  (srp_Encode 166 _ [0, 52, 1] _ (by decide) (rowZ_three w 0 52 1 2) (in_three 0 52 1 (by decide) (by decide) (by decide)) (by decide)).mono (fun e w' ⟨v, h1, h2, _, h3⟩ => wrote_of _ ⟨v, h1, h2, ((Grew.refl w).alloc _).trans h3⟩)
-- [NMEA
set_option maxRecDepth 100000 in
set_option maxHeartbeats 8000000 in
theorem prg_planNMEA (w : World) (ht : Tabs w) : Calls Tryz.prog 8 #[] w (PlanT 1 w) := by
  unfold PlanT
  rw [plan_one]
  go_enter Tryz.func8, Tryz.ntmps8
  go_upto_region 2 with (go_at_call 21; refine (prg_zda _ ht).mono ?_; rintro e w1 ⟨A1, c1, er1, rfl, r1, g1⟩; have R1 := Lib.hid r1; have G1 := Lib.hid g1; clear r1 g1)
  go_upto_region 3 with (go_at_call 21; refine (prg_rmc _ (ht.grew G1.out)).mono ?_; rintro e w2 ⟨A2, c2, er2, rfl, r2, g2⟩; have R2 := Lib.hid r2; have G2 := Lib.hid g2; clear r2 g2)
  go_upto_region 4 with (go_at_call 22; refine (prg_ask _ ((ht.grew G1.out).grew G2.out)).mono ?_; rintro e w3 ⟨A3, c3, er3, rfl, r3, g3⟩; have R3 := Lib.hid r3; have G3 := Lib.hid g3; clear r3 g3)
  go_wp2_with fail
  go_ret
  have Q1 := ((R1.out.grew G2.out).grew G3.out).grew ((Grew.refl w3).alloc (.cells #[.slice A1 zdaL.length c1, .int .u8 0, .int .u8 0, .int .u8 0, .slice A2 rmcL.length c2, .int .u8 0, .int .u8 0, .int .u8 0, .slice A3 askL.length c3, .int .u8 0, .int .u8 0, .int .u8 0] 27))
  have Q2 := (R2.out.grew G3.out).grew ((Grew.refl w3).alloc (.cells #[.slice A1 zdaL.length c1, .int .u8 0, .int .u8 0, .int .u8 0, .slice A2 rmcL.length c2, .int .u8 0, .int .u8 0, .int .u8 0, .slice A3 askL.length c3, .int .u8 0, .int .u8 0, .int .u8 0] 27))
  have Q3 := R3.out.grew ((Grew.refl w3).alloc (.cells #[.slice A1 zdaL.length c1, .int .u8 0, .int .u8 0, .int .u8 0, .slice A2 rmcL.length c2, .int .u8 0, .int .u8 0, .int .u8 0, .slice A3 askL.length c3, .int .u8 0, .int .u8 0, .int .u8 0] 27))
  refine ⟨_, rfl, cmds_of_cells (cs := [⟨zdaL, 0, 0, 0⟩, ⟨rmcL, 0, 0, 0⟩, ⟨askL, 0, 0, 0⟩]) (vs := [.slice A1 zdaL.length c1, .slice A2 rmcL.length c2, .slice A3 askL.length c3]) (n := 3) (cells_lit w3 27 3 [.slice A1 zdaL.length c1, .int .u8 0, .int .u8 0, .int .u8 0, .slice A2 rmcL.length c2, .int .u8 0, .int .u8 0, .int .u8 0, .slice A3 askL.length c3, .int .u8 0, .int .u8 0, .int .u8 0] rfl) ⟨rfl, rfl⟩ (rows_three Q1 Q2 Q3) ?_, (((G1.out.trans G2.out).trans G3.out)).alloc _⟩
  intro c hc
  simp only [List.mem_cons, List.not_mem_nil, or_false] at hc
  rcases hc with rfl | rfl | rfl
  · exact ⟨(by decide : 0 < 256), (by decide : 0 < 256), (by decide : 0 < 256)⟩
  · exact ⟨(by decide : 0 < 256), (by decide : 0 < 256), (by decide : 0 < 256)⟩
  · exact ⟨(by decide : 0 < 256), (by decide : 0 < 256), (by decide : 0 < 256)⟩
-- NMEA]
-- [SIRF
set_option maxRecDepth 100000 in
set_option maxHeartbeats 8000000 in
theorem prg_planSiRF (w : World) : Calls Tryz.prog 10 #[] w (PlanT 3 w) := by
  unfold PlanT
  rw [plan_three]
  go_enter Tryz.func10, Tryz.ntmps10
  go_upto_region 2 with (go_at_call 24; refine (prg_sirf _).mono ?_; rintro e w1 ⟨A1, c1, er1, rfl, r1, g1⟩; have R1 := Lib.hid r1; have G1 := Lib.hid g1; clear r1 g1)
  go_wp2_with fail
  go_ret
  have Q1 := R1.out.grew ((Grew.refl w1).alloc (.cells #[.slice A1 sfL.length c1, .int .u8 2, .int .u8 0, .int .u8 166] 27))
  refine ⟨_, rfl, cmds_of_cells (cs := [⟨sfL, 2, 0, 166⟩]) (vs := [.slice A1 sfL.length c1]) (n := 1) (cells_lit w1 27 1 [.slice A1 sfL.length c1, .int .u8 2, .int .u8 0, .int .u8 166] rfl) ⟨rfl, rfl⟩ (rows_oneP Q1) ?_, (G1.out).alloc _⟩
  intro c hc
  simp only [List.mem_cons, List.not_mem_nil, or_false] at hc
  rcases hc with rfl
  · exact ⟨(by decide : 2 < 256), (by decide : 0 < 256), (by decide : 166 < 256)⟩
-- SIRF]
def idOf (k : Nat) : Nat := if k = 0 then 8 else 1
def zsOf (k : Nat) : List Int := if k = 0 then [1000, 1, 1] else if k = 1 then [1, 7, 1] else [13, 1, 1]
def ubOf (k : Nat) : List Nat := (ubxEnc (6 * 256 + idOf k) (zsOf k)).1
theorem zs_in (k : Nat) : In64 (zsOf k) := by
  unfold zsOf
  split
  · exact in_three 1000 1 1 (by decide) (by decide) (by decide)
  · split
    · exact in_three 1 7 1 (by decide) (by decide) (by decide)
    · exact in_three 13 1 1 (by decide) (by decide) (by decide)
theorem zs_len (k : Nat) : (zsOf k).length = 3 := by
  unfold zsOf
  split
  · rfl
  · split <;> rfl
theorem id_lt (k : Nat) : idOf k < 256 := by
  unfold idOf
  split <;> decide
theorem ub_pos (k : Nat) : 0 < (ubOf k).length := by
  obtain ⟨_, _, _, a4, a5, a6, _⟩ := plan_lens
  by_cases h0 : k = 0
  · subst h0; exact a4.1
  · by_cases h1 : k = 1
    · subst h1; exact a5.1
    · have e : ubOf k = ub3L := by
        unfold ubOf idOf zsOf
        rw [if_neg h0, if_neg h0, if_neg h1]
        rfl
      rw [e]; exact a6.1
/-- The three messages behind a slice. -/
structure MsgsAt (V : World) (m : Nat) : Prop where
  lt : m < V.heap.size
  at_ : ∀ k, k < 3 → ∃ x, x < m ∧ V.cell? ⟨m, k * 3, none⟩ = some (.int .u8 6) ∧ V.cell? ⟨m, k * 3 + 1, none⟩ = some (.int .u8 (idOf k : Nat)) ∧ V.cell? ⟨m, k * 3 + 2, none⟩ = some (.slice (some ⟨x, 0, none⟩) 3 3) ∧ RowZ .i64 V (.slice (some ⟨x, 0, none⟩) 3 3) (zsOf k)
theorem MsgsAt.far {F : Nat → Prop} {V W : World} {m : Nat} (h : MsgsAt V m) (g : Far F V W) (hF : ∀ x, x ≤ m → ¬ F x) : MsgsAt W m := by
  have hm := hF m (Nat.le_refl _)
  refine ⟨Nat.lt_of_lt_of_le h.lt g.size, fun k hk => ?_⟩
  obtain ⟨x, h0, h1, h2, h3, h4⟩ := h.at_ k hk
  exact ⟨x, h0, (g.cell (p := ⟨m, k * 3, none⟩) h.lt hm).trans h1, (g.cell (p := ⟨m, k * 3 + 1, none⟩) h.lt hm).trans h2, (g.cell (p := ⟨m, k * 3 + 2, none⟩) h.lt hm).trans h3, h4.far g (fun b e => by simp [Value.ownBlock] at e; exact hF b (by omega))⟩
theorem MsgsAt.grew {V W : World} {m : Nat} (h : MsgsAt V m) (g : Grew V W) : MsgsAt W m := h.far (F := fun _ => False) (Far.of_grew g) (fun _ _ q => q)
theorem msgs_new (w : World) : ∃ V, (((w.alloc (.cells #[.int .i64 1000, .int .i64 1, .int .i64 1] 2)).alloc (.cells #[.int .i64 1, .int .i64 7, .int .i64 1] 2)).alloc (.cells #[.int .i64 13, .int .i64 1, .int .i64 1] 2)).alloc
    (.cells #[.int .u8 6, .int .u8 8, .slice (some ⟨w.heap.size, 0, none⟩) 3 3, .int .u8 6, .int .u8 1, .slice (some ⟨w.heap.size + 1, 0, none⟩) 3 3, .int .u8 6, .int .u8 1, .slice (some ⟨w.heap.size + 1 + 1, 0, none⟩) 3 3] 37) = V ∧ Grew w V ∧ MsgsAt V (w.heap.size + 1 + 1 + 1) := by
  refine ⟨_, rfl, ((((Grew.refl w).alloc _).alloc _).alloc _).alloc _, by simp, fun k hk => ?_⟩
  have z1 := rowZ_three w 1000 1 1 2
  obtain ⟨V1, hV1⟩ : ∃ V, w.alloc (.cells #[.int .i64 1000, .int .i64 1, .int .i64 1] 2) = V := ⟨_, rfl⟩
  have s1 : V1.heap.size = w.heap.size + 1 := by rw [← hV1]; simp
  rw [hV1] at z1 ⊢
  have z2 := rowZ_three V1 1 7 1 2
  have g1 := (Grew.refl V1).alloc (.cells #[.int .i64 1, .int .i64 7, .int .i64 1] 2)
  obtain ⟨V2, hV2⟩ : ∃ V, V1.alloc (.cells #[.int .i64 1, .int .i64 7, .int .i64 1] 2) = V := ⟨_, rfl⟩
  have s2 : V2.heap.size = V1.heap.size + 1 := by rw [← hV2]; simp
  rw [hV2] at z2 g1 ⊢
  have z3 := rowZ_three V2 13 1 1 2
  have g2 := (Grew.refl V2).alloc (.cells #[.int .i64 13, .int .i64 1, .int .i64 1] 2)
  obtain ⟨V3, hV3⟩ : ∃ V, V2.alloc (.cells #[.int .i64 13, .int .i64 1, .int .i64 1] 2) = V := ⟨_, rfl⟩
  have s3 : V3.heap.size = V2.heap.size + 1 := by rw [← hV3]; simp
  rw [hV3] at z3 g2 ⊢
  rw [← s1, ← s2, ← s3]
  have g3 := (Grew.refl V3).alloc (.cells #[.int .u8 6, .int .u8 8, .slice (some ⟨w.heap.size, 0, none⟩) 3 3, .int .u8 6, .int .u8 1, .slice (some ⟨V1.heap.size, 0, none⟩) 3 3, .int .u8 6, .int .u8 1, .slice (some ⟨V2.heap.size, 0, none⟩) 3 3] 37)
  match k, hk with
  | 0, _ => exact ⟨w.heap.size, by omega, by rw [World.cell?_alloc_new]; rfl, by rw [World.cell?_alloc_new]; rfl, by rw [World.cell?_alloc_new]; rfl, ((z1.grew g1).grew g2).grew g3⟩
  | 1, _ => exact ⟨V1.heap.size, by omega, by rw [World.cell?_alloc_new]; rfl, by rw [World.cell?_alloc_new]; rfl, by rw [World.cell?_alloc_new]; rfl, (z2.grew g2).grew g3⟩
  | 2, _ => exact ⟨V2.heap.size, by omega, by rw [World.cell?_alloc_new]; rfl, by rw [World.cell?_alloc_new]; rfl, by rw [World.cell?_alloc_new]; rfl, z3.grew g3⟩
/-- The plan of which the first k are laid. -/
structure LaidTo (B : Nat) (w : World) (p : Nat) (xs : List Value) (k : Nat) : Prop where
  own : w.ownsRow B 27 4 (.slice (some ⟨p, 0, none⟩) 3 3) 3 xs
  at_ : ∀ i, i < k → ∃ v, xs[i * 4]? = some v ∧ xs[i * 4 + 1]? = some (.int .u8 1) ∧ xs[i * 4 + 2]? = some (.int .u8 6) ∧ xs[i * 4 + 3]? = some (.int .u8 (idOf i : Nat)) ∧ Row .u8 w v (ubOf i) ∧ ∀ b, v.ownBlock = some b → b ≠ p
theorem LaidTo.grew {B p k : Nat} {w w' : World} {xs : List Value} (h : LaidTo B w p xs k) (g : Grew w w') : LaidTo B w' p xs k :=
  ⟨ownsRow_grew h.own g, fun i hi => by obtain ⟨v, h1, h2, h3, h4, h5, h6⟩ := h.at_ i hi; exact ⟨v, h1, h2, h3, h4, h5.grew g, h6⟩⟩
theorem LaidTo.put {B p k : Nat} {w : World} {xs : List Value} (h : LaidTo B w p xs k) (hk : k < 3) {v : Value} (hr : Row .u8 w v (ubOf k)) (hb : ∀ b, v.ownBlock = some b → b ≠ p) :
    LaidTo B ((((w.setCell ⟨p, k * 4, none⟩ v).setCell ⟨p, k * 4 + 1, none⟩ (.int .u8 1)).setCell ⟨p, k * 4 + 2, none⟩ (.int .u8 6)).setCell ⟨p, k * 4 + 3, none⟩ (.int .u8 (idOf k : Nat))) p
      ((((xs.set (k * 4) v).set (k * 4 + 1) (.int .u8 1)).set (k * 4 + 2) (.int .u8 6)).set (k * 4 + 3) (.int .u8 (idOf k : Nat))) (k + 1) := by
  have hl : xs.length = 12 := h.own.1
  have F := (((Far.one w ⟨p, k * 4, none⟩ v).setCell (p := ⟨p, k * 4 + 1, none⟩) rfl (.int .u8 1)).setCell (p := ⟨p, k * 4 + 2, none⟩) rfl (.int .u8 6)).setCell (p := ⟨p, k * 4 + 3, none⟩) rfl (.int .u8 (idOf k : Nat))
  have o1 := (World.ownsRow.stored h.own (k * 4) v).1
  have o2 := (World.ownsRow.stored o1 (k * 4 + 1) (.int .u8 1)).1
  have o3 := (World.ownsRow.stored o2 (k * 4 + 2) (.int .u8 6)).1
  have o4 := (World.ownsRow.stored o3 (k * 4 + 3) (.int .u8 (idOf k : Nat))).1
  refine ⟨o4, fun i hi => ?_⟩
  by_cases e : i = k
  · subst e
    refine ⟨v, ?_, ?_, ?_, ?_, hr.far F (fun b q e => hb b q e), hb⟩ <;> simp [List.getElem?_set, hl] <;> omega
  · obtain ⟨u, h1, h2, h3, h4, h5, h6⟩ := h.at_ i (by omega)
    refine ⟨u, ?_, ?_, ?_, ?_, h5.far F (fun b q e => h6 b q e), h6⟩
    · rw [List.getElem?_set_ne (by omega), List.getElem?_set_ne (by omega), List.getElem?_set_ne (by omega), List.getElem?_set_ne (by omega)]; exact h1
    · rw [List.getElem?_set_ne (by omega), List.getElem?_set_ne (by omega), List.getElem?_set_ne (by omega), List.getElem?_set_ne (by omega)]; exact h2
    · rw [List.getElem?_set_ne (by omega), List.getElem?_set_ne (by omega), List.getElem?_set_ne (by omega), List.getElem?_set_ne (by omega)]; exact h3
    · rw [List.getElem?_set_ne (by omega), List.getElem?_set_ne (by omega), List.getElem?_set_ne (by omega), List.getElem?_set_ne (by omega)]; exact h4
theorem LaidTo.cmds {B p : Nat} {w : World} {xs : List Value} (h : LaidTo B w p xs 3) : CmdsAt Any w (.slice (some ⟨p, 0, none⟩) 3 3) [⟨ub1L, 1, 6, 8⟩, ⟨ub2L, 1, 6, 1⟩, ⟨ub3L, 1, 6, 1⟩] := by
  have hl : xs.length = 12 := h.own.1
  have hlt := (World.ownsRow.lt h.own p rfl).2
  have hc : ∀ j x, xs[j]? = some x → w.cell? ⟨p, 0 + j, none⟩ = some x := fun j x hj => by
    have hj12 : j < 12 := by rw [← hl]; exact (List.getElem?_eq_some_iff.1 hj).1
    rw [Nat.zero_add, World.ownsRow.cellAt h.own j (by omega)]
    exact hj
  have main : ∀ (i : Nat) (q : Cmd), i < 3 → q = ⟨ubOf i, 1, 6, idOf i⟩ → ∃ fv, CmdIn w p (0 + i * 4) q fv ∧ (0 < q.b.length → ∀ b, fv.ownBlock = some b → Any b) := fun i q hi e => by
    subst e
    obtain ⟨v, h1, h2, h3, h4, h5, _⟩ := h.at_ i hi
    exact ⟨v, ⟨hlt, hc _ _ h1, hc (i * 4 + 1) _ h2, hc (i * 4 + 2) _ h3, hc (i * 4 + 3) _ h4, h5, (by decide : 1 < 256), (by decide : 6 < 256), id_lt i⟩, fun _ _ _ => trivial⟩
  refine ⟨_, 3, rfl, Nat.le_refl _, fun _ => ⟨p, 0, rfl, fun i q hi => ?_⟩⟩
  match i, hi with
  | 0, hi => cases hi; exact main 0 _ (by decide) rfl
  | 1, hi => cases hi; exact main 1 _ (by decide) rfl
  | 2, hi => cases hi; exact main 2 _ (by decide) rfl
  | _ + 3, hi => simp at hi
-- [UBX
set_option maxRecDepth 100000 in
set_option maxHeartbeats 8000000 in
theorem prg_planUBX (w : World) : Calls Tryz.prog 9 #[] w (PlanT 2 w) := by
  obtain ⟨ei, hei, hz0, hz1, hz2⟩ := info_parts infoCmd
  go_enter Tryz.func9, Tryz.ntmps9
  go_upto_region 2 with fail
  obtain ⟨V, hV, gV, hM⟩ := msgs_new w
  rw [hV]
  clear hV
  have HM := Lib.hid hM
  have GV := Lib.hid gV
  obtain ⟨m, hm⟩ : ∃ m, w.heap.size + 1 + 1 + 1 = m := ⟨_, rfl⟩
  rw [hm] at HM ⊢
  clear hM gV hm
  go_wp2_with (refine wpList_make_full _ rfl _ _ 22 rfl w.heap.size 27 ei (.agg #[.slice none 0 0, .int .u8 0, .int .u8 0, .int .u8 0]) 4 Tryz.underlying22 hei hz0 hz1 .i64 .i64 3 3 3 rfl rfl rfl rfl (by rw [hz2]; decide) (by decide) GV.out.size ?_; intro w3 hown hgrow; have g3 : Grew V w3 := Below.grown (Grew.refl V) hgrow (Nat.le_refl _) (fun b hb => by cases hb); have HOW := Lib.hid hown; have G3 := Lib.hid g3; clear hown hgrow g3)
  have hp0 : w.heap.size ≤ V.heap.size := GV.out.size
  have hmp : m < V.heap.size := HM.out.lt
  obtain ⟨p, hp⟩ : ∃ p, V.heap.size = p := ⟨_, rfl⟩
  rw [hp] at HOW hp0 hmp ⊢
  have L0 : LaidTo w.heap.size w3 p _ 0 := ⟨HOW.out, fun i hi => absurd hi (Nat.not_lt_zero _)⟩
  have HL0 := Lib.hid L0
  have GA := Lib.hid (GV.out.trans G3.out)
  have M3 := Lib.hid (HM.out.grew G3.out)
  clear L0 HOW hei hz0 hz1 hz2
  go_wp2_with fail
  go_loopw [19] (fun i wr => ∃ (k : Nat) (xs : List Value), k ≤ 3 ∧ i = .int .i64 (k : Nat) ∧ Hid (LaidTo w.heap.size wr p xs k) ∧ Hid (Grew w wr) ∧ Hid (MsgsAt wr m)) (fun i _ => 3 - (intOf i).toNat)
  case atStart => exact ⟨0, _, by decide, rfl, HL0, GA, M3⟩
  case round =>
    obtain ⟨k, xs, hkk, rfl, HL, G, HMM⟩ := hrel
    by_cases hlt : k < 3
    · obtain ⟨x, hxm, m0, m1, m2, mz⟩ := HMM.out.at_ k hlt
      have hml := HMM.out.lt
      have hki : (k : Int) < 3 := by omega
      have hpl := (World.ownsRow.lt HL.out.own p rfl).2
      obtain ⟨nid, hnid⟩ : ∃ n, idOf k = n := ⟨_, rfl⟩
      rw [hnid] at m1
      have hn256 : nid < 256 := by rw [← hnid]; exact id_lt k
      go_upto_region 6 with fail
      obtain ⟨U, hU, gU, TU⟩ := three_new wr (.int .u8 6) (.int .u8 (nid : Nat)) (.slice (some ⟨x, 0, none⟩) 3 3) 37
      rw [hU]
      clear hU m0 m1 m2
      have T1 := Lib.hid TU
      obtain ⟨lU, t0, t1, t2, _, _, _⟩ := TU
      have hub : Hid ((ubxEnc (6 * 256 + nid) (zsOf k)).1 = ubOf k) := Lib.hid (by unfold ubOf; rw [hnid])
      have hpos := ub_pos k
      have HE0 : Calls Tryz.prog 23 #[.agg #[.int .u8 6, .int .u8 (nid : Nat), .slice (some ⟨x, 0, none⟩) 3 3]] U fun e w' => ∃ (Au : Option Addr) (cu : Nat) (er : Int), e = .returned (.tuple #[.slice Au (ubOf k).length cu, .int .i64 er]) ∧ Row .u8 w' (.slice Au (ubOf k).length cu) (ubOf k) ∧ (∀ b, (Value.slice Au (ubOf k).length cu).ownBlock = some b → U.heap.size ≤ b) ∧ Grew U w' := by
        refine (ubp_Encode 6 nid (.slice (some ⟨x, 0, none⟩) 3 3) (zsOf k) U (by decide) hn256 (mz.grew gU) (zs_in k) (by rw [zs_len]; decide)).mono ?_
        rintro e w' ⟨u, rfl, hrow, hfr, g⟩
        rw [hub.out] at hrow hfr
        obtain ⟨Au, cu, rfl, _⟩ := hrow.form
        exact ⟨Au, cu, _, rfl, hrow, hfr hpos, g⟩
      have HE := Lib.hid HE0
      have GU := Lib.hid gU
      clear HE0 mz gU
      go_upto_region 7 with (go_at_call 23; refine HE.out.mono ?_; rintro e w5 ⟨Au, cu, er, rfl, hrow, hfr, g5⟩; have HRO := Lib.hid hrow; have HFR := Lib.hid hfr; have G5 := Lib.hid (GU.out.trans g5); have T5 := Lib.hid (T1.out.grew g5); clear hrow hfr g5 lU t0 t1 t2)
      obtain ⟨lU, t0, t1, t2, _, _, _⟩ := T5.out
      have L5 := Lib.hid (HL.out.grew G5.out)
      have hxl : xs.length = 12 := HL.out.own.1
      have y0 := (World.ownsRow.cellAt L5.out.own (k * 4) (by omega)).trans (List.getElem?_eq_getElem (by omega))
      have y1 := (World.ownsRow.cellAt L5.out.own (k * 4 + 1) (by omega)).trans (List.getElem?_eq_getElem (by omega))
      have y2 := (World.ownsRow.cellAt L5.out.own (k * 4 + 2) (by omega)).trans (List.getElem?_eq_getElem (by omega))
      have y3 := (World.ownsRow.cellAt L5.out.own (k * 4 + 3) (by omega)).trans (List.getElem?_eq_getElem (by omega))
      have f0 := World.ownsRow.frozenAt L5.out.own (k * 4)
      have f1 := World.ownsRow.frozenAt L5.out.own (k * 4 + 1)
      have f2 := World.ownsRow.frozenAt L5.out.own (k * 4 + 2)
      have f3 := World.ownsRow.frozenAt L5.out.own (k * 4 + 3)
      have hp5 := (World.ownsRow.lt L5.out.own p rfl).2
      have hpw : p < wr.heap.size := hpl
      have P5 := Lib.hid (L5.out.put hlt HRO.out (fun b q e => by have := HFR.out b q; have := GU.out.size; omega))
      rw [hnid] at P5
      have GP : Grew w ((((w5.setCell ⟨p, k * 4, none⟩ (.slice Au (ubOf k).length cu)).setCell ⟨p, k * 4 + 1, none⟩ (.int .u8 1)).setCell ⟨p, k * 4 + 2, none⟩ (.int .u8 6)).setCell ⟨p, k * 4 + 3, none⟩ (.int .u8 (nid : Nat))) := ((((G.out.trans G5.out).setCell (p := ⟨p, k * 4, none⟩) hp0 _).setCell (p := ⟨p, k * 4 + 1, none⟩) hp0 _).setCell (p := ⟨p, k * 4 + 2, none⟩) hp0 _).setCell (p := ⟨p, k * 4 + 3, none⟩) hp0 _
      have HGP := Lib.hid GP
      have HMP := Lib.hid ((HMM.out.grew G5.out).far ((((Far.one w5 ⟨p, k * 4, none⟩ (.slice Au (ubOf k).length cu)).setCell (p := ⟨p, k * 4 + 1, none⟩) rfl (.int .u8 1)).setCell (p := ⟨p, k * 4 + 2, none⟩) rfl (.int .u8 6)).setCell (p := ⟨p, k * 4 + 3, none⟩) rfl (.int .u8 (nid : Nat))) (fun x hx e => by have : x = p := e; omega))
      clear GP hub HE
      generalize ubOf k = ub at *
      go_wp2_with fail
      go_round
      case rel => exact ⟨k + 1, _, by omega, by go_num, P5, HGP, HMP⟩
      case measure => simp [intOf]; omega
    · obtain rfl : k = 3 := by omega
      have hcm := Lib.hid HL.out.cmds
      go_wp2_with fail
      go_ret
      unfold PlanT
      rw [plan_two]
      exact ⟨_, rfl, hcm.out, G.out⟩
-- UBX]
end Go.Proofs.YtcdmbnbanopioaaGreatDoor

namespace Go.Proofs.YtcdmbnbanopioaaGreatDoor
open Go.RowKit
set_option linter.unusedVariables false

-- [PLAN
set_option maxRecDepth 100000 in
set_option maxHeartbeats 4000000 in
theorem prog_Plan (k : Nat) (w : World) (hk : k < 256) (ht : Tabs w) : Calls Tryz.prog 4 #[.int .u8 (k : Nat)] w (PlanT k w) := by
  have H1 := Lib.hid (prg_planNMEA w ht)
  have H2 := Lib.hid (prg_planUBX w)
  have H3 := Lib.hid (prg_planSiRF w)
  by_cases h1 : k = 1
  · subst h1
    go_enter Tryz.func4, Tryz.ntmps4
    go_wp2_with (go_at_call 8; refine H1.out.mono ?_; rintro e w1 ⟨v, rfl, hc, g⟩; have HC := Lib.hid hc; clear hc)
    go_ret
    exact ⟨_, rfl, HC.out, g⟩
  · by_cases h2 : k = 2
    · subst h2
      go_enter Tryz.func4, Tryz.ntmps4
      go_wp2_with (go_at_call 9; refine H2.out.mono ?_; rintro e w1 ⟨v, rfl, hc, g⟩; have HC := Lib.hid hc; clear hc)
      go_ret
      exact ⟨_, rfl, HC.out, g⟩
    · by_cases h3 : k = 3
      · subst h3
        go_enter Tryz.func4, Tryz.ntmps4
        go_wp2_with (go_at_call 10; refine H3.out.mono ?_; rintro e w1 ⟨v, rfl, hc, g⟩; have HC := Lib.hid hc; clear hc)
        go_ret
        exact ⟨_, rfl, HC.out, g⟩
      · have n1 : ((k : Int) == 1) = false := by rw [beq_eq_false_iff_ne]; omega
        have n2 : ((k : Int) == 2) = false := by rw [beq_eq_false_iff_ne]; omega
        have n3 : ((k : Int) == 3) = false := by rw [beq_eq_false_iff_ne]; omega
        have hp := Lib.hid (plan_none h1 h2 h3)
        clear h1 h2 h3
        go_enter Tryz.func4, Tryz.ntmps4
        go_wp2_with fail
        go_ret
        unfold PlanT
        rw [hp.out]
        exact ⟨_, rfl, ⟨none, 0, rfl, Nat.le_refl _, fun h => absurd h (by simp)⟩, Grew.refl _⟩
-- PLAN]
-- [LAW
set_option maxRecDepth 100000 in
set_option maxHeartbeats 8000000 in
theorem law_DialogPlan (k : Nat) (w : World) (hk : k < 256) (ht : Tabs w) : Calls Tryz.prog 3 #[.int .u8 (k : Nat)] w fun e w' => e = .returned (.bool true) ∧ Grew w w' := by
  have HP := Lib.hid (prog_Plan k w hk ht)
  have HD := fun w' => Lib.hid (ref14_Plan k w' hk)
  have HK := fun w' => Lib.hid (law_known14 dlg_calls w')
  obtain ⟨hmay, hlen⟩ := plan_may k
  unfold PlanT at HP HD
  generalize planOf k = cs at *
  have HMAY := Lib.hid hmay
  have hL3 := hlen
  clear hmay
  go_enter Tryz.func3, Tryz.ntmps3
  go_upto_region 2 with (first | (go_at_call 4; refine HP.out.mono ?_; rintro e w1 ⟨v1, rfl, hc1, g1⟩; have HC1 := Lib.hid hc1; have G1 := Lib.hid g1; clear g1; obtain ⟨A1, c1, rfl, hcap1, _⟩ := hc1) | (go_at_call 5; refine (HD _).out.mono ?_; rintro e w2 ⟨v2, rfl, hc2, g2⟩; have HC2 := Lib.hid hc2; have G2 := Lib.hid g2; clear g2; obtain ⟨A2, c2, rfl, hcap2, _⟩ := hc2))
  have HM := Lib.hid (law_may Any (.slice A1 cs.length c1) cs 100000000 1 w2 (HC1.out.grew G2.out) (by omega) (fun c hc => by have := (HMAY.out c hc).2.1; omega) (by decide) (by decide))
  have hmd : mayDlg cs 100000000 1 := ⟨HMAY.out, by omega, by decide, by decide, by decide, by decide⟩
  have HMD := Lib.hid hmd
  unfold MayT at HM
  clear hmd
  go_upto_region 4 with (go_at_call 6; refine HM.out.mono ?_; rintro e w3 ⟨r, rfl, g3, hr⟩; obtain rfl : r = true := hr.2 HMD.out; clear hr)
  have G3 := Lib.hid ((G1.out.trans G2.out).trans g3)
  have C1 := Lib.hid ((HC1.out.grew G2.out).grew g3)
  have C2 := Lib.hid (HC2.out.grew g3)
  clear g3
  go_wp2_with fail
  go_loopw [22] (fun i wr => ∃ k : Nat, k ≤ cs.length ∧ i = .int .i64 (k : Nat) ∧ Hid (Grew w3 wr)) (fun i _ => cs.length - (intOf i).toNat)
  case atStart => exact ⟨0, Nat.zero_le _, rfl, Lib.hid (Grew.refl _)⟩
  case round =>
    obtain ⟨k, hkk, rfl, G⟩ := hrel
    by_cases hlt : k < cs.length
    · obtain ⟨b1, o1, cc1, fv1, e1, _, hd1, _⟩ := (C1.out.grew G.out).at_ k hlt
      cases e1
      obtain ⟨b2, o2, cc2, fv2, e2, _, hd2, _⟩ := (C2.out.grew G.out).at_ k hlt
      cases e2
      have p0 := hd1.c0
      have p1 := hd1.c1
      have p2 := hd1.c2
      have p3 := hd1.c3
      have q0 := hd2.c0
      have q1 := hd2.c1
      have q2 := hd2.c2
      have q3 := hd2.c3
      have l1 := hd1.lt
      have l2 := hd2.lt
      have HR1 := Lib.hid hd1.row
      have HR2 := Lib.hid hd2.row
      obtain ⟨A3, c3, rfl, hc3, _⟩ := hd1.row
      obtain ⟨A4, c4, rfl, hc4, _⟩ := hd2.row
      have hki : (k : Int) < cs.length := by omega
      clear hd1 hd2
      generalize cs[k] = q at *
      have S1 := Lib.hid (fun w' (g : Grew wr w') => Row.string _ (HR1.out.grew g) 25 5 Tryz.underlying25 Tryz.underlying5 9 Tryz.underlying9)
      have S2 := Lib.hid (fun w' (g : Grew wr w') => Row.string _ (HR2.out.grew g) 25 5 Tryz.underlying25 Tryz.underlying5 9 Tryz.underlying9)
      generalize strOf q.b = Z at *
      have KS : ∀ w', Grew wr w' → (w'.cell? ⟨b1, o1 + k * 4, none⟩ = some (.slice A3 q.b.length c3) ∧ w'.cell? ⟨b1, o1 + k * 4 + 1, none⟩ = some (.int .u8 (q.wait : Nat)) ∧ w'.cell? ⟨b1, o1 + k * 4 + 2, none⟩ = some (.int .u8 (q.cls : Nat)) ∧ w'.cell? ⟨b1, o1 + k * 4 + 3, none⟩ = some (.int .u8 (q.id : Nat)) ∧
          w'.cell? ⟨b2, o2 + k * 4, none⟩ = some (.slice A4 q.b.length c4) ∧ w'.cell? ⟨b2, o2 + k * 4 + 1, none⟩ = some (.int .u8 (q.wait : Nat)) ∧ w'.cell? ⟨b2, o2 + k * 4 + 2, none⟩ = some (.int .u8 (q.cls : Nat)) ∧ w'.cell? ⟨b2, o2 + k * 4 + 3, none⟩ = some (.int .u8 (q.id : Nat)) ∧
          (convert 25 9 (.slice A3 q.b.length c3)).run Tryz.prog w' = .ok (.string Z) w' ∧ (convert 25 9 (.slice A4 q.b.length c4)).run Tryz.prog w' = .ok (.string Z) w') := fun w' g =>
        ⟨(g.cell (p := ⟨b1, o1 + k * 4, none⟩) l1).trans p0, (g.cell (p := ⟨b1, o1 + k * 4 + 1, none⟩) l1).trans p1, (g.cell (p := ⟨b1, o1 + k * 4 + 2, none⟩) l1).trans p2, (g.cell (p := ⟨b1, o1 + k * 4 + 3, none⟩) l1).trans p3, (g.cell (p := ⟨b2, o2 + k * 4, none⟩) l2).trans q0, (g.cell (p := ⟨b2, o2 + k * 4 + 1, none⟩) l2).trans q1, (g.cell (p := ⟨b2, o2 + k * 4 + 2, none⟩) l2).trans q2, (g.cell (p := ⟨b2, o2 + k * 4 + 3, none⟩) l2).trans q3, S1.out _ g, S2.out _ g⟩
      have D := (Grew.refl wr).drew
      clear p0 p1 p2 p3 q0 q1 q2 q3
      go_upto_region 7 with fail
      go_region_held_law (fun w' => w'.cell? ⟨b1, o1 + k * 4, none⟩ = some (.slice A3 q.b.length c3) ∧ w'.cell? ⟨b1, o1 + k * 4 + 1, none⟩ = some (.int .u8 (q.wait : Nat)) ∧ w'.cell? ⟨b1, o1 + k * 4 + 2, none⟩ = some (.int .u8 (q.cls : Nat)) ∧ w'.cell? ⟨b1, o1 + k * 4 + 3, none⟩ = some (.int .u8 (q.id : Nat)) ∧
          w'.cell? ⟨b2, o2 + k * 4, none⟩ = some (.slice A4 q.b.length c4) ∧ w'.cell? ⟨b2, o2 + k * 4 + 1, none⟩ = some (.int .u8 (q.wait : Nat)) ∧ w'.cell? ⟨b2, o2 + k * 4 + 2, none⟩ = some (.int .u8 (q.cls : Nat)) ∧ w'.cell? ⟨b2, o2 + k * 4 + 3, none⟩ = some (.int .u8 (q.id : Nat)) ∧
          (convert 25 9 (.slice A3 q.b.length c3)).run Tryz.prog w' = .ok (.string Z) w' ∧ (convert 25 9 (.slice A4 q.b.length c4)).run Tryz.prog w' = .ok (.string Z) w') (exact KS _ D) (fail)
      have G7 := Lib.hid (G.out.trans D)
      go_wp2_with fail
      go_round
      case rel => exact ⟨k + 1, by omega, by go_num, G7⟩
      case measure => simp [intOf]; omega
    · obtain rfl : k = cs.length := by omega
      go_wp2_with (go_at_call 7; refine (HK _).out.mono ?_; rintro e w9 ⟨rfl, g9⟩)
      go_ret
      exact ⟨rfl, (G3.out.trans G.out).trans g9⟩
-- LAW]
end Go.Proofs.YtcdmbnbanopioaaGreatDoor

namespace Go.Proofs.YtcdmbnbanopioaaGreatDoor
open Go.RowKit Go.ChangeShapes
set_option linter.unusedVariables false

theorem cellsInt : Tryz.prog.cellsOf 3 = 1 := by kernel_rfl
theorem cellsText : Tryz.prog.cellsOf 9 = 1 := by kernel_rfl
theorem gPow : Tryz.prog.globalNamed "internal/strconv.uint64pow10" = some 1 := by kernel_rfl
theorem gPowType : (Tryz.prog.globals[1]?).map (·.type) = some 168 := by kernel_rfl
theorem cellsPow : Tryz.prog.cellsOf 168 = 20 := by kernel_rfl
theorem cellsU64 : Tryz.prog.cellsOf 92 = 1 := by kernel_rfl
theorem gSen : Tryz.prog.globalNamed "remontoire/nmeaout.sentences" = some 0 := by kernel_rfl
theorem gSenType : (Tryz.prog.globals[0]?).map (·.type) = some 99 := by kernel_rfl
theorem cellsSen : Tryz.prog.cellsOf 78 = 2 := by kernel_rfl
theorem sen_at {H : Type} {enc : TypeId × Value → H} {w : World} {base fuel : Nat} {sp : Nat → Bool} {held : Bool} {cs : List Value} {ds : List (DataW H)} {p : List MemPlace}
    (h : DataW.trod enc Tryz.prog w base sp held fuel 99 cs = some (.agg ds, p)) (i : Nat) (hi : i < 8) :
    ∃ (s : ByteArray) (z : Int), cs[i * 2]? = some (.string s) ∧ cs[i * 2 + 1]? = some (.int .i64 z) ∧ ds[i]? = some (.agg [.lit (.string s.data.toList), .lit (.int .i64 z)]) := by
  obtain ⟨xs, m, rfl, hx, hl, hn, hf⟩ := DataW.trod_array Tryz.underlying99 h
  simp only [Prod.mk.injEq, DataW.agg.injEq] at hx
  obtain ⟨rfl, rfl⟩ := hx
  have h1 := hf i hi
  rw [cellsSen, List.getElem?_eq_getElem (by omega)] at h1
  obtain ⟨y0, y1, n, hy, _, h2, h3⟩ := trod_struct2 Tryz.underlying78 h1
  obtain ⟨s, hs, e0, _⟩ := DataW.trod_string Tryz.underlying9 h2
  obtain ⟨z, hz, e1, _⟩ := DataW.trod_int Tryz.underlying3 h3
  refine ⟨s, z, ?_, ?_, ?_⟩
  · have := congrArg (·[0]?) hs
    simpa [List.getElem?_take, List.getElem?_drop, cellsText] using this
  · have := congrArg (·[0]?) hz
    simpa [List.getElem?_take, List.getElem?_drop, cellsInt] using this
  · rw [List.getElem?_map, List.getElem?_eq_getElem (by omega), hy, e0, e1]
    rfl
theorem pow_of {W : World} {rest : List (String × DataW Unit)} (h : laidMet Tryz.prog (("internal/strconv.uint64pow10", Rows.laid_internal_strconv_uint64pow10) :: rest) W) : Lib.TabIs Tryz.prog W "internal/strconv.uint64pow10" .u64 Lib.pow10Tab :=
  Lib.tabIs_of_head (zs := Lib.pow10Tab) (rest := rest) gPow gPowType Tryz.underlying168 Tryz.underlying92 cellsU64 cellsPow h
theorem text_of {s : ByteArray} {l : List UInt8} (h : s.data.toList = l) : s = ⟨l.toArray⟩ := by
  subst h
  exact (congrArg ByteArray.mk (Array.toArray_toList (xs := s.data))).symm
theorem sen_of {W : World} {rest : List (String × DataW Unit)} (h : laidMet Tryz.prog (("remontoire/nmeaout.sentences", Rows.laid_remontoire_nmeaout_sentences) :: rest) W) :
    0 < W.heap.size ∧ (∀ k : Nat, k < 8 → W.cell? ⟨0, 2 * k, none⟩ = some (.string (kindText k))) ∧ ∀ k : Nat, k < 8 → W.cell? ⟨0, 2 * k + 1, none⟩ = some (.int .i64 (kindNum k : Nat)) := by
  obtain ⟨ps, ⟨g', t', cs, fuel, p, q, hg', ht', hvar, hd, _, _⟩, _⟩ := h
  obtain rfl := Option.some.inj (gSen.symm.trans hg')
  obtain rfl := Option.some.inj (gSenType.symm.trans ht')
  have main : ∀ k : Nat, k < 8 → W.cell? ⟨0, 2 * k, none⟩ = some (.string (kindText k)) ∧ W.cell? ⟨0, 2 * k + 1, none⟩ = some (.int .i64 (kindNum k : Nat)) := fun k hk => by
    obtain ⟨s, z, h1, h2, h3⟩ := sen_at hd k hk
    have c1 := World.var?_cell gSen hvar (2 * k)
    have c2 := World.var?_cell gSen hvar (2 * k + 1)
    rw [Nat.mul_comm k 2] at h1 h2
    rw [Array.getElem?_toList] at h1 h2
    rw [c1, c2, h1, h2]
    have e : s.data.toList = (kindText k).data.toList ∧ z = (kindNum k : Nat) := by
      rcases (show k = 0 ∨ k = 1 ∨ k = 2 ∨ k = 3 ∨ k = 4 ∨ k = 5 ∨ k = 6 ∨ k = 7 by omega) with rfl | rfl | rfl | rfl | rfl | rfl | rfl | rfl <;>
        (simp at h3; obtain ⟨e1, e2⟩ := h3; exact ⟨e1 ▸ rfl, e2 ▸ rfl⟩)
    obtain ⟨e1, rfl⟩ := e
    refine ⟨?_, rfl⟩
    rw [show s = kindText k from nat_ext (by unfold nat; rw [e1])]
  exact ⟨World.block_lt_of_cell? W _ (main 0 (by decide)).1, fun k hk => (main k hk).1, fun k hk => (main k hk).2⟩
end Go.Proofs.YtcdmbnbanopioaaGreatDoor

