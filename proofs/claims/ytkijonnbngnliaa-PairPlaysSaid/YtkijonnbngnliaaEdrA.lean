/-
  The document's log of edges: a list behind a pointer; whether two lists are the same.
-/
import Derived.Test.YtkijonnbngnliaaEdgA
import Derived.Test.YtkijonnbngnliaaRowJ
import Derived.Deep.RegionHeld3
import Derived.Deep.MidRow
import Derived.Deep.CutBlock
import Derived.Deep.DeepCutAuto
namespace Go.Proofs.Ytkijonnbngnliaa
open Go.RowKit
set_option linter.unusedVariables false

theorem infoR64 : (Try.prog.info? 2).map (fun i => (i.zero, i.size, i.bytes)) = some (some (.int .i64 0), 1, 8) := by kernel_rfl
/-- The document's log in block g: its list. -/
structure RefE (w : World) (g : Nat) (L : Value) (zs : List Int) : Prop where
  lt : g < w.heap.size
  c0 : w.cell? ⟨g, 0, none⟩ = some L
  f0 : w.frozen? ⟨g, 0, none⟩ = false
  row : RowZ .i64 w L zs
  own : ∀ b, L.ownBlock = some b → b < w.heap.size ∧ b ≠ g
section
variable {F : Nat → Prop} {w w' : World} {g : Nat} {L : Value} {zs : List Int}
theorem RefE.far (h : RefE w g L zs) (k : Far F w w') (hg : ¬ F g) (hL : ∀ b, L.ownBlock = some b → ¬ F b) : RefE w' g L zs :=
  ⟨Nat.lt_of_lt_of_le h.lt k.size, (k.cell (p := ⟨g, 0, none⟩) h.lt hg).trans h.c0, (k.frozen (p := ⟨g, 0, none⟩) h.lt hg).trans h.f0, h.row.far k hL, fun b e => ⟨Nat.lt_of_lt_of_le (h.own b e).1 k.size, (h.own b e).2⟩⟩
theorem RefE.grew (h : RefE w g L zs) (k : Grew w w') : RefE w' g L zs := h.far (F := fun _ => False) (Far.of_grew k) (fun q => q) (fun _ _ q => q)
theorem RefE.put (h : RefE w g L zs) {L' : Value} {zs' : List Int} (hr : RowZ .i64 w L' zs') (ho : ∀ b, L'.ownBlock = some b → b < w.heap.size ∧ b ≠ g) : RefE (w.setCell ⟨g, 0, none⟩ L') g L' zs' :=
  ⟨by simpa [World.setCell] using h.lt, World.cell?_setCell_same _ _ _ h.c0, by simpa [go_sem] using h.f0, hr.far (Far.one w ⟨g, 0, none⟩ L') (fun b e => (ho b e).2), fun b e => ⟨by simpa [World.setCell] using (ho b e).1, (ho b e).2⟩⟩
end
theorem RowZ.cut1 {k : IntKind} {w : World} {b o c : Nat} {x : Int} {zs : List Int} (h : RowZ k w (.slice (some ⟨b, o, none⟩) (zs.length + 1) c) (x :: zs)) : RowZ k w (.slice (some ⟨b, o + 1, none⟩) zs.length (c - 1)) zs := by
  obtain ⟨A, c', e, hc, hr⟩ := h
  simp only [Value.slice.injEq, List.length_cons] at e hc
  obtain ⟨rfl, _, rfl⟩ := e
  refine ⟨_, _, rfl, by omega, fun hn => ?_⟩
  obtain ⟨b', o', e', hb, hcell⟩ := hr (by simp)
  cases e'
  refine ⟨b, o + 1, rfl, hb, fun i hi => ?_⟩
  have := hcell (i + 1) (by simp; omega)
  rw [show o + 1 + i = o + (i + 1) by omega, this]
  simp [zi]
-- [ADD
def AddT (g : Nat) (L : Value) (zs : List Int) (c : Int) (w : World) (e : Ending) (w' : World) : Prop :=
  ∃ L', e = .returned (.int .i64 (if c < lastE zs then 2 else 0)) ∧ RefE w' g L' (addE zs c) ∧ (∀ b, L'.ownBlock = some b → L.ownBlock = some b ∨ w.heap.size ≤ b) ∧ Far (fun b => b = g) w w'
set_option maxRecDepth 100000 in
set_option maxHeartbeats 2000000 in
theorem ref16_Add (w : World) (g : Nat) (L : Value) (zs : List Int) (c : Int) (h : RefE w g L zs) (hl : zs.length ≤ 8) (h0 : 0 ≤ lastE zs) (hc : -9223372036854775808 ≤ c ∧ c ≤ 9223372036854775807) :
    Calls Try.prog 30 #[.pointer (some ⟨g, 0, none⟩), .int .i64 c] w (AddT g L zs c w) := by
  have HH := Lib.hid h
  obtain ⟨lt, c0, f0, row, own⟩ := h
  by_cases hlt : c < lastE zs
  · have HP : Hid (∀ n, AddT g L zs c w (.returned (.int .i64 2)) (w.drewN n)) := Lib.hid (fun n => by
      refine ⟨L, by rw [if_pos hlt], ?_, fun b e => .inl e, Far.of_grew ((Grew.refl w).drewN n)⟩
      unfold addE
      rw [if_pos hlt]
      exact HH.out.grew ((Grew.refl w).drewN n))
    obtain ⟨A, cp, rfl, hcp⟩ := row.form
    by_cases hn : c < 0
    · have d0 : decide (c < 0) = true := decide_eq_true hn
      go_enter Try.func30, Try.ntmps30
      go_upto_region 1 with fail
      go_quiet (fail)
      go_wp2_with fail
      go_ret
      exact HP.out _
    · have d0 : decide (c < 0) = false := decide_eq_false hn
      have hz : ¬ zs.length = 0 := fun e => by unfold lastE at hlt; rw [if_pos e] at hlt; exact hn hlt
      obtain ⟨b, o, rfl, hb, hcell⟩ := row.at_ (i := zs.length - 1) (by omega)
      have d1 : decide ((0 : Int) < zs.length) = true := decide_eq_true (by omega)
      have d1n : 0 < zs.length := by omega
      unfold lastE at hlt
      rw [if_neg hz] at hlt
      generalize zi zs (zs.length - 1) = z at *
      have d2 : decide (c < z) = true := decide_eq_true hlt
      obtain ⟨m, hm⟩ : ∃ m, zs.length - 1 = m := ⟨_, rfl⟩
      have e1 : IntKind.i64.wrap ((zs.length : Int) - 1) = (m : Int) := by rw [IntWalk.i64_in _ (by omega)]; omega
      rw [hm] at hcell
      have m1 : (m : Int) < zs.length := by omega
      clear row own hm hlt h0
      go_enter Try.func30, Try.ntmps30
      go_upto_region 1 with fail
      go_quiet (fail)
      go_wp2_with fail
      go_ret
      exact HP.out _
  · obtain ⟨A, cp, rfl, hcp⟩ := row.form
    have HP : Hid (∀ w' L', Far (fun b => b = g) w w' → RefE w' g L' (pushE zs c) → (∀ b, L'.ownBlock = some b → w.heap.size ≤ b) → AddT g (.slice A zs.length cp) zs c w (.returned (.int .i64 0)) w') := Lib.hid (fun w' L' q1 q2 q3 => by
      refine ⟨L', by rw [if_neg hlt], ?_, fun b e => .inr (q3 b e), q1⟩
      unfold addE
      rw [if_neg hlt]
      exact q2)
    have hn : ¬ c < 0 := fun e => by unfold lastE at *; split at h0 <;> rename_i hz <;> simp [hz] at hlt <;> omega
    have d0 : decide (c < 0) = false := decide_eq_false hn
    have hq : zs.length = 0 ∨ (0 < zs.length ∧ ¬ c < zi zs (zs.length - 1)) := by
      by_cases e : zs.length = 0
      · exact .inl e
      · unfold lastE at hlt
        rw [if_neg e] at hlt
        exact .inr ⟨by omega, hlt⟩
    have HN := Lib.hid hn
    clear hlt h0 hn
    go_enter Try.func30, Try.ntmps30
    go_upto_region 1 with fail
    go_cut [30] (fun s wx => s = .bool false ∧ Hid (Grew w wx))
    case first =>
      rcases hq with hz | ⟨d1n, hge⟩
      · obtain rfl : zs = [] := List.eq_nil_of_length_eq_zero hz
        have d1 : decide ((0 : Int) < 0) = false := by decide
        clear hz row own HP
        go_quiet (fail)
        go_wp2_with fail
        go_meet
        case rel => exact ⟨rfl, Lib.hid ((Grew.refl w).drewN _)⟩
      · obtain ⟨b, o, rfl, hb, hcell⟩ := row.at_ (i := zs.length - 1) (by omega)
        have d1 : decide ((0 : Int) < zs.length) = true := decide_eq_true (by omega)
        generalize zi zs (zs.length - 1) = z at *
        have d2 : decide (c < z) = false := decide_eq_false hge
        obtain ⟨m, hm⟩ : ∃ m, zs.length - 1 = m := ⟨_, rfl⟩
        have e1 : IntKind.i64.wrap ((zs.length : Int) - 1) = (m : Int) := by rw [IntWalk.i64_in _ (by omega)]; omega
        rw [hm] at hcell
        have m1 : (m : Int) < zs.length := by omega
        clear row own hm hge HP
        go_quiet (fail)
        go_wp2_with fail
        go_meet
        case rel => exact ⟨rfl, Lib.hid ((Grew.refl w).drewN _)⟩
    case rest =>
      obtain ⟨rfl, GC⟩ := hcut
      obtain ⟨lt1, k0, z0, row1, own1⟩ := HH.out.grew GC.out
      have gA := (Grew.refl wc).alloc (.cells #[] 2)
      have hA := own_litZ (B := wc.heap.size) wc .i64 2 (Nat.le_refl _)
      have kA := (gA.cell (p := ⟨g, 0, none⟩) lt1).trans k0
      have rowA := row1.grew gA
      have HGA := Lib.hid gA
      have ltA := Nat.lt_of_lt_of_le lt1 gA.size
      have hsA : wc.heap.size ≤ (wc.alloc (.cells #[] 2)).heap.size := gA.size
      clear hq d0 c0 f0 row own lt k0 gA row1
      go_upto_region 4 with (first
        | (refine wpList_joinZ _ rfl _ _ 71 rfl wc.heap.size 2 .i64 8 Try.underlying71 infoR64 (.slice (some ⟨wc.heap.size, 0, none⟩) 0 0) [] rfl hA (.slice A zs.length cp) zs rfl rowA (by simp only [List.length_nil]; omega) (by decide) hsA ?_; intro v1 w1 hO1 hg1; rw [List.nil_append] at hO1; have D1 := Grew.pushY HGA.out hA (Nat.le_refl _) hg1; have D1' := D1.alloc (.cells #[.int .i64 c] 2); have hO1' := hO1.grew ((Grew.refl w1).alloc (.cells #[.int .i64 c] 2)); have hs1 : wc.heap.size ≤ (w1.alloc (.cells #[.int .i64 c] 2)).heap.size := D1'.size)
        | (refine wpList_pushZ _ rfl _ _ 71 rfl wc.heap.size 2 .i64 8 Try.underlying71 infoR64 v1 zs rfl hO1' ⟨w1.heap.size, 0, none⟩ c rfl (by simp [go_sem]) (by omega) (by decide) hs1 ?_; intro v2 w2 hO2 hg2; have D2 := Grew.pushZ D1' hO1' hg2; obtain ⟨b2, cp2, rfl, hb2, hlt2⟩ := hO2.head (by simp); have k2 := (D2.cell (p := ⟨g, 0, none⟩) lt1).trans ((GC.out.cell (p := ⟨g, 0, none⟩) HH.out.lt).trans HH.out.c0); have z2 := (D2.frozen (p := ⟨g, 0, none⟩) lt1).trans z0; have lt2 := Nat.lt_of_lt_of_le lt1 D2.size))
      have hlen : (zs ++ [c]).length = zs.length + 1 := by simp
      rw [hlen] at hO2
      clear hlen
      have HO := Lib.hid hO2
      have HD := Lib.hid D2
      have HRE : Hid (RefE w2 g (.slice A zs.length cp) zs) := Lib.hid (HH.out.grew (GC.out.trans D2))
      clear hO2 D2 D1 D1' hO1 hO1' hg1 hg2 hA HGA rowA hsA hs1
      have hbb : b2 ≠ g := by have := HH.out.lt; have := GC.out.size; omega
      have HPUT : Hid (∀ L' zs', RowZ .i64 w2 L' zs' → (∀ b, L'.ownBlock = some b → b = b2) → RefE (w2.setCell ⟨g, 0, none⟩ L') g L' zs') := Lib.hid (fun L' zs' q1 q2 => HRE.out.put q1 (fun b e => by rw [q2 b e]; exact ⟨hlt2, hbb⟩))
      have HFW : Hid (∀ u, Far (fun b => b = g) w (w2.setCell ⟨g, 0, none⟩ u)) := Lib.hid (fun u => Far.setCell (F := fun b => b = g) (Far.of_grew (GC.out.trans HD.out)) (p := ⟨g, 0, none⟩) rfl u)
      have hw2 : w.heap.size ≤ b2 := by have := GC.out.size; omega
      by_cases h8 : zs.length < 8
      · have h8' : ¬ (8 : Int) < zs.length + 1 := by omega
        go_wp2_with fail
        go_ret
        refine HP.out _ _ (HFW.out _) (HPUT.out _ _ ?_ (fun b e => by cases e; rfl)) (fun b e => by cases e; exact hw2)
        unfold pushE
        rw [if_pos h8]
        exact HO.out.row
      · have h8' : (8 : Int) < zs.length + 1 := by omega
        obtain ⟨x, t, rfl⟩ : ∃ x t, zs = x :: t := by
          cases zs with
          | nil => simp at h8
          | cons x t => exact ⟨x, t, rfl⟩
        have ht : t.length = 7 := by simp only [List.length_cons] at h8 hl; omega
        have HR := Lib.hid HO.out.row
        rw [List.cons_append] at HR
        have HCT := Lib.hid (RowZ.cut1 (zs := t ++ [c]) (by rw [List.length_append, List.length_singleton]; exact HR.out))
        rw [List.length_append, List.length_singleton, ht] at HCT
        have hcp9 : 9 ≤ cp2 := by obtain ⟨_, cz, e, hc9, _⟩ := HR.out; simp only [Value.slice.injEq] at e; obtain ⟨-, -, rfl⟩ := e; simp only [List.length_cons, List.length_append, List.length_nil, ht] at hc9; omega
        have hpush := Lib.hid (show pushE (x :: t) c = t ++ [c] by unfold pushE; rw [if_neg h8]; rfl)
        simp only [List.length_cons, ht, Nat.reduceAdd] at *
        have HO8 := HO.out.1
        have hcp9' : ¬ cp2 = 1 := by omega
        clear HO8
        go_wp2_with fail
        go_ret
        have HW3 := HPUT.out _ _ HR.out (fun b e => by cases e; rfl)
        refine HP.out _ (.slice (some ⟨b2, 1, none⟩) 8 (cp2 - 1)) ((HFW.out _).trans (Far.setCell (F := fun b => b = g) (Far.refl _ _) (p := ⟨g, 0, none⟩) rfl _)) ?_ (fun b e => by simp only [Value.ownBlock, Option.some.injEq] at e; subst e; exact hw2)
        rw [hpush.out]
        exact HW3.put (HCT.out.far (Far.one w2 ⟨g, 0, none⟩ _) (fun b e q => by simp only [Value.ownBlock, Option.some.injEq] at e; subst e; exact hbb q)) (fun b e => by simp only [Value.ownBlock, Option.some.injEq] at e; subst e; exact ⟨by simpa [World.setCell] using hlt2, hbb⟩)
-- ADD]
-- [COUNT
set_option maxRecDepth 100000 in
theorem ref16_Count (w : World) (g : Nat) (L : Value) (zs : List Int) (a b : Int) (h : RefE w g L zs) (hl : zs.length ≤ 8) :
    Calls Try.prog 25 #[.pointer (some ⟨g, 0, none⟩), .int .i64 a, .int .i64 b] w fun e w' => e = .returned (.int .i64 (cntE zs a b zs.length : Nat)) ∧ w = w' := by
  have HH := Lib.hid h
  obtain ⟨lt, c0, _, row, _⟩ := h
  obtain ⟨A, cp, rfl, hcp⟩ := row.form
  have HR := Lib.hid row
  clear row
  obtain ⟨N, HN⟩ : ∃ N, Hid (cntE zs a b zs.length = N) := ⟨_, Lib.hid rfl⟩
  rw [HN.out]
  go_enter Try.func25, Try.ntmps25
  go_wp2_with fail
  go_loop [7, 8] (fun s i => ∃ k : Nat, k ≤ zs.length ∧ s = .int .i64 (cntE zs a b k : Nat) ∧ i = .int .i64 (k : Nat)) (fun _ i => zs.length - (intOf i).toNat)
  case atStart => exact ⟨0, Nat.zero_le _, rfl, rfl⟩
  case round =>
    obtain ⟨k, hk, rfl, rfl⟩ := hrel
    have hle := cntE_le zs a b k
    by_cases hlt : k < zs.length
    · obtain ⟨bb, o, rfl, hb, hcell⟩ := HR.out.at_ hlt
      have hki : (k : Int) < zs.length := by omega
      have hs := Lib.hid (show cntE zs a b (k + 1) = cntE zs a b k + (if a ≤ zi zs k ∧ zi zs k ≤ b then 1 else 0) from rfl)
      generalize cntE zs a b k = S at *
      generalize zi zs k = z at *
      have e1 : IntKind.i64.wrap ((S : Int) + 1) = ((S + 1 : Nat) : Int) := by rw [IntWalk.i64_in _ (by omega)]; omega
      by_cases h1 : a ≤ z
      · by_cases h2 : z ≤ b
        · rw [if_pos ⟨h1, h2⟩] at hs
          go_wp2_with fail
          go_round
          case rel => exact ⟨k + 1, by omega, by rw [hs.out]; first | rfl | go_num, by go_num⟩
          case measure => simp [intOf]; omega
        · rw [if_neg (fun q => h2 q.2)] at hs
          go_wp2_with fail
          go_round
          case rel => exact ⟨k + 1, by omega, by rw [hs.out]; rfl, by go_num⟩
          case measure => simp [intOf]; omega
      · rw [if_neg (fun q => h1 q.1)] at hs
        go_wp2_with fail
        go_round
        case rel => exact ⟨k + 1, by omega, by rw [hs.out]; rfl, by go_num⟩
        case measure => simp [intOf]; omega
    · obtain rfl : k = zs.length := by omega
      rw [HN.out]
      go_wp2_with fail
      go_ret
      exact ⟨rfl, rfl⟩
-- COUNT]
end Go.Proofs.Ytkijonnbngnliaa
