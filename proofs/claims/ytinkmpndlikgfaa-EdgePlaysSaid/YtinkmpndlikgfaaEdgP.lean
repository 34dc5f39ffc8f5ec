/-
  The laws of edges: whatever edges come.
-/
import Derived.Test.YtinkmpndlikgfaaEdgL
import Derived.Test.YtinkmpndlikgfaaRowI
import Derived.Test.YtinkmpndlikgfaaHeldN
import Derived.Deep.RegionHeldLaw
namespace Go.Proofs.Ytinkmpndlikgfaa
open Go.RowKit Go.ChangeShapes Go.WideShapes
set_option linter.unusedVariables false

/-- The program's log x in block p, the document's in block g. -/
structure Edges2 (w0 w : World) (p g : Nat) (L : Value) (E : List Int) : Prop where
  prog : LogR w p 0 E
  doc : RefE w g L E
  grew : Grew w0 w
  hp : w0.heap.size ≤ p
  hg : w0.heap.size ≤ g
  hL : ∀ b, L.ownBlock = some b → w0.heap.size ≤ b ∧ b ≠ p
  ne : p ≠ g
  pos : 0 ≤ lastE E
theorem lastE_push (E : List Int) (c : Int) : lastE (pushE E c) = c := by
  unfold lastE
  have hl : 0 < (pushE E c).length := by unfold pushE; split <;> simp
  rw [if_neg (by omega), zi_lt (by omega)]
  unfold pushE
  split <;> simp
theorem lastE_add (E : List Int) (c : Int) (h : 0 ≤ lastE E) : 0 ≤ lastE (addE E c) := by
  unfold addE
  split
  · exact h
  · rename_i q
    rw [lastE_push]
    omega
section
variable {w0 w w' : World} {p g : Nat} {L : Value} {E : List Int}
theorem Edges2.far {F : Nat → Prop} (h : Edges2 w0 w p g L E) (k : Far F w w') (h1 : ¬ F p) (h2 : ¬ F g) (h3 : ∀ b, L.ownBlock = some b → ¬ F b) (h4 : ∀ b, F b → w0.heap.size ≤ b) : Edges2 w0 w' p g L E :=
  ⟨h.prog.far k h1, h.doc.far k h2 h3, k.grew h.grew h4, h.hp, h.hg, h.hL, h.ne, h.pos⟩
theorem Edges2.grown (h : Edges2 w0 w p g L E) (k : Grew w w') : Edges2 w0 w' p g L E :=
  h.far (F := fun _ => False) (Far.of_grew k) (fun q => q) (fun q => q) (fun _ _ q => q) (fun _ q => q.elim)
/-- A block made behind: writing it turns nothing. -/
theorem Edges2.beside (h : Edges2 w0 w p g L E) (k : Grew w w') {w2 : World} {x : Nat} (hx : w.heap.size ≤ x) (f : Far (fun b => b = x) w' w2) : Edges2 w0 w2 p g L E := by
  refine (h.grown k).far f (fun e => ?_) (fun e => ?_) (fun b hb e => ?_) (fun b e => ?_)
  · have := h.prog.lt; omega
  · have := h.doc.lt; omega
  · have := (h.doc.own b hb).1; omega
  · have := h.grew.size; omega
end
-- [PLAYS
set_option maxRecDepth 100000 in
set_option maxHeartbeats 4000000 in
theorem law_EdgePlays (A : Option Addr) (len cap : Nat) (cs : List Int) (from_ to_ : Int) (w : World) (h : ZsIn .i64 w A len cap cs) (hf : -9223372036854775808 ≤ from_ ∧ from_ ≤ 9223372036854775807) (ht : -9223372036854775808 ≤ to_ ∧ to_ ≤ 9223372036854775807) :
    Calls Try.prog 3 #[.slice A len cap, .int .i64 from_, .int .i64 to_] w fun e w' => e = .returned (.bool true) ∧ Grew w w' := by
  obtain ⟨hR, hwf, rfl⟩ := h
  have HR := Lib.hid hR
  have HB := Lib.hid (fun i (hi : i < cs.length) => bounds_i64 (hwf i hi))
  have HK := fun w' => Lib.hid (law_known16 w')
  have HN := Lib.hid (log_New w)
  clear hwf hR
  by_cases hl : cs.length ≤ 60
  · have hl' : ¬ (60 : Int) < cs.length := by omega
    go_enter Try.func3, Try.ntmps3
    go_upto_region 4 with (go_at_call 6; refine HN.out.mono ?_; rintro e w1 ⟨rfl, h1, g1⟩)
    have gA := (Grew.refl w1).alloc (.cells #[.slice none 0 0] 28)
    have hE0 : Edges2 w (w1.alloc (.cells #[.slice none 0 0] 28)) w.heap.size w1.heap.size (.slice none 0 0) [] :=
      ⟨h1.grew gA, ⟨by simp, by simp [go_sem], by simp [go_sem], RowZ.nil _ _, fun b e => by simp [Value.ownBlock] at e⟩, g1.trans gA, Nat.le_refl _, g1.size, fun b e => by simp [Value.ownBlock] at e, by have := h1.lt; omega, by decide⟩
    have HE0 := Lib.hid hE0
    clear hE0 h1 g1 gA HN
    generalize w1.alloc (.cells #[.slice none 0 0] 28) = w2 at *
    obtain ⟨p, hp⟩ : ∃ p, w.heap.size = p := ⟨_, rfl⟩
    obtain ⟨g, hg⟩ : ∃ g, w1.heap.size = g := ⟨_, rfl⟩
    rw [hp, hg] at HE0 ⊢
    have HPp := Lib.hid hp
    clear hp hg
    go_wp2_with fail
    go_loopw [27] (fun i wr => ∃ (k : Nat) (L : Value) (E : List Int), k ≤ cs.length ∧ i = .int .i64 (k : Nat) ∧ Hid (Edges2 w wr p g L E)) (fun i _ => cs.length - (intOf i).toNat)
    case atStart => exact ⟨0, _, _, Nat.zero_le _, rfl, HE0⟩
    case round =>
      obtain ⟨k, L, E, hk, rfl, HE⟩ := hrel
      by_cases hlt : k < cs.length
      · obtain ⟨b, o, rfl, hbl, c0⟩ := (HR.out.grew HE.out.grew).at_ hlt
        obtain ⟨d0, d1⟩ := HB.out k hlt
        have hki : (k : Int) < cs.length := by omega
        have e3 : IntKind.i64.wrap ((k : Int) + 1) = ((k + 1 : Nat) : Int) := by rw [IntWalk.i64_in _ (by omega)]; omega
        generalize zi cs k = c at *
        have HCY := Lib.hid (log_Copy wr p 0 E HE.out.prog)
        have hpr := HE.out.prog.lt
        obtain ⟨q, HQq⟩ : ∃ q, Hid (wr.heap.size = q) := ⟨_, Lib.hid rfl⟩
        rw [HQq.out] at HCY
        have hqp : p < q := by rw [← HQq.out]; exact hpr
        obtain ⟨r, HRr⟩ : ∃ r : Int, Hid ((if c < lastE E then (2 : Int) else 0) = r) := ⟨_, Lib.hid rfl⟩
        go_upto_region 10 with (go_at_call 7; refine HCY.out.mono ?_; rintro e w3 ⟨rfl, hy3, g3⟩)
        have HA1 := Lib.hid (log_Add w3 q 0 E c hy3 ⟨d0, d1⟩)
        rw [HRr.out] at HA1
        have HX3 := Lib.hid g3
        clear hy3 g3 HCY
        go_upto_region 12 with (first
          | (go_at_call 8; refine HA2.out.mono ?_; rintro e w5 ⟨rfl, hx5, f5⟩)
          | (go_at_call 8; refine HA1.out.mono ?_; rintro e w4 ⟨rfl, hy4, f4⟩; have HE4 := Lib.hid (HE.out.beside HX3.out (x := q) (by rw [HQq.out]; exact Nat.le_refl _) f4); have HA2 := Lib.hid (log_Add w4 p 0 E c HE4.out.prog ⟨d0, d1⟩); rw [HRr.out] at HA2; clear HA1))
        have hy5 := hy4.far f5 (fun e => by omega)
        have HA3 := Lib.hid (log_Add w5 q 0 (addE E c) 4611686018427387904 hy5 (by decide))
        obtain ⟨r3, HR3⟩ : ∃ r : Int, Hid ((if (4611686018427387904 : Int) < lastE (addE E c) then (2 : Int) else 0) = r) := ⟨_, Lib.hid rfl⟩
        rw [HR3.out] at HA3
        have HE5 := Lib.hid (HE4.out.doc.far f5 (fun e => HE.out.ne e.symm) (fun b e q => (HE.out.hL b e).2 q))
        have HX5 := Lib.hid hx5
        have GR5 := Lib.hid (f5.grew HE4.out.grew (fun b e => by rw [e]; exact HE.out.hp))
        clear hy5 hy4 f4 hx5
        go_upto_region 13 with (go_at_call 8; refine HA3.out.mono ?_; rintro e w6 ⟨rfl, hy6, f6⟩)
        have hql : ∀ b, L.ownBlock = some b → b < q := fun b e => by rw [← HQq.out]; exact (HE.out.doc.own b e).1
        have hgq : g < q := by rw [← HQq.out]; exact HE.out.doc.lt
        have hE6 := HE5.out.far f6 (fun e => by omega) (fun b e e2 => by have := hql b e; omega)
        have HX6 := Lib.hid (HX5.out.far f6 (fun e => by omega))
        have hwq : w.heap.size ≤ q := Nat.le_trans HE.out.hp (by omega)
        have GR6 := Lib.hid (f6.grew GR5.out (fun b e => by rw [e]; exact hwq))
        have HA4 := Lib.hid (ref16_Add w6 g L E c hE6 HE.out.prog.len HE.out.pos ⟨d0, d1⟩)
        unfold AddT at HA4
        rw [HRr.out] at HA4
        clear hy6 f6 hE6
        go_upto_region 14 with (go_at_call 9; refine HA4.out.mono ?_; rintro e w7 ⟨L', rfl, hr7, ho7, f7⟩)
        have hE7 : Edges2 w w7 p g L' (addE E c) := ⟨HX6.out.far f7 (fun e => HE.out.ne e), hr7, f7.grew GR6.out (fun b e => by rw [e]; exact HE.out.hg), HE.out.hp, HE.out.hg, fun b e => by
          rcases ho7 b e with q1 | q1
          · exact HE.out.hL b q1
          · have := GR6.out.size
            have := HX6.out.lt
            exact ⟨by omega, by omega⟩, HE.out.ne, lastE_add E c HE.out.pos⟩
        have HE7 := Lib.hid hE7
        generalize addE E c = E' at *
        clear HE5 HX5 GR5 HX6 GR6 HA4 HA3 HA2 HE4 HX3 hE7 hr7 ho7 f7 f5 hql hgq hwq HE hpr
        have HV := Lib.hid (log_All w7 p 0 E' HE7.out.prog)
        go_upto_region 15 with (go_at_call 10; refine HV.out.mono ?_; rintro e w8 ⟨v8, rfl, hO8, g8⟩)
        have HE8 := Lib.hid (HE7.out.grown g8)
        have HLs := Lib.hid (log_Last w8 p 0 E' HE8.out.prog)
        obtain ⟨lv, HLV⟩ : ∃ lv, Hid (lastE E' = lv) := ⟨_, Lib.hid rfl⟩
        obtain ⟨okv, HOK⟩ : ∃ b, Hid (decide (0 < E'.length) = b) := ⟨_, Lib.hid rfl⟩
        rw [HLV.out, HOK.out] at HLs
        go_upto_region 16 with (go_at_call 11; refine HLs.out.mono ?_; rintro e w9 ⟨rfl, g9⟩)
        have HE9 := Lib.hid (HE8.out.grown g9)
        have HO9 := Lib.hid (hO8.grew g9)
        clear HV HLs HE8
        have hlen := HE9.out.prog.len
        obtain ⟨AL, cL, rfl, hcL⟩ := HE9.out.doc.row.form
        have hlg := HE9.out.doc.lt
        have k0 := HE9.out.doc.c0
        have KS := fun w' (G : Grew w9 w') => Lib.hid ((G.cell (p := ⟨g, 0, none⟩) hlg).trans k0)
        have KG := Lib.hid (fun w' (G : Grew w9 w') => Nat.lt_of_lt_of_le hlg G.size)
        have HSm := fun w' (G : Grew w9 w') => Lib.hid (ref16_Same w' v8 _ E' E' (HO9.out.grew G).row (HE9.out.doc.row.grew G) (by omega))
        rw [decide_eq_true rfl] at HSm
        have HC1 := fun w' (G : Grew w9 w') => Lib.hid (log_Count w' p 0 E' from_ to_ (HE9.out.prog.grew G))
        have HC2 := fun w' (G : Grew w9 w') => Lib.hid (ref16_Count w' g _ E' from_ to_ (HE9.out.doc.grew G) hlen)
        obtain ⟨N, HNN⟩ : ∃ N, Hid (cntE E' from_ to_ E'.length = N) := ⟨_, Lib.hid rfl⟩
        rw [HNN.out] at HC1 HC2
        go_cut [98] (fun s wx => s = .bool false ∧ Hid (Grew w9 wx))
        case first =>
          have G : Grew w9 w9.drew := (Grew.refl w9).drew
          by_cases hz : E'.length = 0
          · obtain rfl : E' = [] := List.eq_nil_of_length_eq_zero hz
            obtain rfl : okv = false := HOK.out.symm
            rw [show ([] : List Int).length = 0 from rfl] at KS HSm hcL
            clear hz hlen k0
            refine wp_region_held_drew (S := fun w' => w'.cell? ⟨g, 0, none⟩ = some (.slice AL 0 cL)) (by kernel_rfl) (by exact (KS _ G).out) (fun hHeld => ?_)
            refine take_at (i := 0) (d := (some 52)) (v := ?_) rfl rfl (by kernel_rfl) (by kernel_rfl) (by kernel_rfl) (fun _ _ _ h => h) (Or.inl ⟨by rfl, ?_⟩) (by assumption) ?_
            rotate_left; · ((intro w hSw; (try dsimp only at hSw); go_simp) <;> with_reducible rfl)
            simp only [Act.put, List.setIfInBounds_toArray, List.set_cons_zero, List.set_cons_succ]
            refine take_at (i := 1) (d := (some 53)) (v := ?_) rfl rfl (by kernel_rfl) (by kernel_rfl) (by kernel_rfl) (fun _ _ _ h => h) (Or.inl ⟨by rfl, ?_⟩) (by assumption) ?_
            rotate_left; · ((intro w hSw; (try dsimp only at hSw); go_simp) <;> with_reducible rfl)
            simp only [Act.put, List.setIfInBounds_toArray, List.set_cons_zero, List.set_cons_succ]
            refine take_at (i := 2) (d := (some 54)) (v := ?_) rfl rfl (by kernel_rfl) (by kernel_rfl) (by kernel_rfl) (fun _ _ _ h => h) (Or.inl ⟨by rfl, ?_⟩) (by assumption) ?_
            rotate_left; · ((intro w hSw; (try dsimp only at hSw); go_simp) <;> with_reducible rfl)
            simp only [Act.put, List.setIfInBounds_toArray, List.set_cons_zero, List.set_cons_succ]
            refine take_at (i := 3) (d := (some 55)) (v := ?_) rfl rfl (by kernel_rfl) (by kernel_rfl) (by kernel_rfl) (fun _ _ _ h => h) (Or.inl ⟨by rfl, ?_⟩) (by assumption) ?_
            rotate_left; · ((intro w hSw; (try dsimp only at hSw); go_simp) <;> with_reducible rfl)
            simp only [Act.put, List.setIfInBounds_toArray, List.set_cons_zero, List.set_cons_succ]
            refine take_at (i := 4) (d := (some 56)) (v := ?_) rfl rfl (by kernel_rfl) (by kernel_rfl) (by kernel_rfl) (fun _ _ _ h => h) (Or.inl ⟨by rfl, ?_⟩) (by assumption) ?_
            rotate_left; · ((intro w hSw; (try dsimp only at hSw); go_simp) <;> with_reducible rfl)
            simp only [Act.put, List.setIfInBounds_toArray, List.set_cons_zero, List.set_cons_succ]
            refine wpAnyH_ready (rs := [5]) (by kernel_rfl) (by simp) ?_
            refine AllReadyH.cons rfl (fun K hK => ?_) AllReadyH.nil
            go_simp
            go_wp2_with (first
              | (go_at_call 12; refine (HSm _ G).out.mono ?_; rintro e w10 ⟨rfl, g10⟩; replace G := G.trans g10)
              | (go_at_call 13; refine (HC1 _ G).out.mono ?_; rintro e w11 ⟨rfl, g11⟩; replace G := G.trans g11)
              | (go_at_call 14; refine (HC2 _ G).out.mono ?_; rintro e w12 ⟨rfl, g12⟩; subst g12))
            refine hK.out _ _ (by exact (KS _ G).out) (fun hHeld => ?_)
            clear hK K
            refine take_at (i := 6) (d := (some 58)) (v := ?_) rfl rfl (by kernel_rfl) (by kernel_rfl) (by kernel_rfl) (fun _ _ _ h => h) (Or.inl ⟨by rfl, ?_⟩) (by assumption) ?_
            rotate_left; · ((intro w hSw; (try dsimp only at hSw); go_simp) <;> with_reducible rfl)
            simp only [Act.put, List.setIfInBounds_toArray, List.set_cons_zero, List.set_cons_succ]
            refine take_at (i := 7) (d := (some 59)) (v := ?_) rfl rfl (by kernel_rfl) (by kernel_rfl) (by kernel_rfl) (fun _ _ _ h => h) (Or.inl ⟨by rfl, ?_⟩) (by assumption) ?_
            rotate_left; · ((intro w hSw; (try dsimp only at hSw); go_simp) <;> with_reducible rfl)
            simp only [Act.put, List.setIfInBounds_toArray, List.set_cons_zero, List.set_cons_succ]
            refine take_at (i := 8) (d := (some 60)) (v := ?_) rfl rfl (by kernel_rfl) (by kernel_rfl) (by kernel_rfl) (fun _ _ _ h => h) (Or.inl ⟨by rfl, ?_⟩) (by assumption) ?_
            rotate_left; · ((intro w hSw; (try dsimp only at hSw); go_simp) <;> with_reducible rfl)
            simp only [Act.put, List.setIfInBounds_toArray, List.set_cons_zero, List.set_cons_succ]
            refine take_at (i := 9) (d := (some 61)) (v := ?_) rfl rfl (by kernel_rfl) (by kernel_rfl) (by kernel_rfl) (fun _ _ _ h => h) (Or.inl ⟨by rfl, ?_⟩) (by assumption) ?_
            rotate_left; · ((intro w hSw; (try dsimp only at hSw); go_simp) <;> with_reducible rfl)
            simp only [Act.put, List.setIfInBounds_toArray, List.set_cons_zero, List.set_cons_succ]
            refine take_at (i := 10) (d := (some 62)) (v := ?_) rfl rfl (by kernel_rfl) (by kernel_rfl) (by kernel_rfl) (fun _ _ _ h => h) (Or.inl ⟨by rfl, ?_⟩) (by assumption) ?_
            rotate_left; · ((intro w hSw; (try dsimp only at hSw); go_simp) <;> with_reducible rfl)
            simp only [Act.put, List.setIfInBounds_toArray, List.set_cons_zero, List.set_cons_succ]
            refine take_at (i := 11) (d := (some 63)) (v := ?_) rfl rfl (by kernel_rfl) (by kernel_rfl) (by kernel_rfl) (fun _ _ _ h => h) (Or.inl ⟨by rfl, ?_⟩) (by assumption) ?_
            rotate_left; · ((intro w hSw; (try dsimp only at hSw); go_simp) <;> with_reducible rfl)
            simp only [Act.put, List.setIfInBounds_toArray, List.set_cons_zero, List.set_cons_succ]
            refine take_at (i := 12) (d := (some 64)) (v := ?_) rfl rfl (by kernel_rfl) (by kernel_rfl) (by kernel_rfl) (fun _ _ _ h => h) (Or.inl ⟨by rfl, ?_⟩) (by assumption) ?_
            rotate_left; · ((intro w hSw; (try dsimp only at hSw); go_simp) <;> with_reducible rfl)
            simp only [Act.put, List.setIfInBounds_toArray, List.set_cons_zero, List.set_cons_succ]
            refine take_at (i := 13) (d := (some 65)) (v := ?_) rfl rfl (by kernel_rfl) (by kernel_rfl) (by kernel_rfl) (fun _ _ _ h => h) (Or.inl ⟨by rfl, ?_⟩) (by assumption) ?_
            rotate_left; · ((intro w hSw; (try dsimp only at hSw); go_simp) <;> with_reducible rfl)
            simp only [Act.put, List.setIfInBounds_toArray, List.set_cons_zero, List.set_cons_succ]
            refine take_at (i := 14) (d := (some 66)) (v := ?_) rfl rfl (by kernel_rfl) (by kernel_rfl) (by kernel_rfl) (fun _ _ _ h => h) (Or.inl ⟨by rfl, ?_⟩) (by assumption) ?_
            rotate_left; · ((intro w hSw; (try dsimp only at hSw); go_simp) <;> with_reducible rfl)
            simp only [Act.put, List.setIfInBounds_toArray, List.set_cons_zero, List.set_cons_succ]
            refine take_at (i := 15) (d := (some 67)) (v := ?_) rfl rfl (by kernel_rfl) (by kernel_rfl) (by kernel_rfl) (fun _ _ _ h => h) (Or.inl ⟨by rfl, ?_⟩) (by assumption) ?_
            rotate_left; · ((intro w hSw; (try dsimp only at hSw); go_simp) <;> with_reducible rfl)
            simp only [Act.put, List.setIfInBounds_toArray, List.set_cons_zero, List.set_cons_succ]
            refine take_at (i := 16) (d := (some 68)) (v := ?_) rfl rfl (by kernel_rfl) (by kernel_rfl) (by kernel_rfl) (fun _ _ _ h => h) (Or.inl ⟨by rfl, ?_⟩) (by assumption) ?_
            rotate_left; · ((intro w hSw; (try dsimp only at hSw); go_simp) <;> with_reducible rfl)
            simp only [Act.put, List.setIfInBounds_toArray, List.set_cons_zero, List.set_cons_succ]
            refine take_at (i := 17) (d := (some 69)) (v := ?_) rfl rfl (by kernel_rfl) (by kernel_rfl) (by kernel_rfl) (fun _ _ _ h => h) (Or.inl ⟨by rfl, ?_⟩) (by assumption) ?_
            rotate_left; · ((intro w hSw; (try dsimp only at hSw); go_simp) <;> with_reducible rfl)
            simp only [Act.put, List.setIfInBounds_toArray, List.set_cons_zero, List.set_cons_succ]
            refine take_at (i := 18) (d := (some 70)) (v := ?_) rfl rfl (by kernel_rfl) (by kernel_rfl) (by kernel_rfl) (fun _ _ _ h => h) (Or.inl ⟨by rfl, ?_⟩) (by assumption) ?_
            rotate_left; · ((intro w hSw; (try dsimp only at hSw); go_simp) <;> with_reducible rfl)
            simp only [Act.put, List.setIfInBounds_toArray, List.set_cons_zero, List.set_cons_succ]
            refine take_at (i := 19) (d := (some 71)) (v := ?_) rfl rfl (by kernel_rfl) (by kernel_rfl) (by kernel_rfl) (fun _ _ _ h => h) (Or.inl ⟨by rfl, ?_⟩) (by assumption) ?_
            rotate_left; · ((intro w hSw; (try dsimp only at hSw); go_simp) <;> with_reducible rfl)
            simp only [Act.put, List.setIfInBounds_toArray, List.set_cons_zero, List.set_cons_succ]
            refine take_at (i := 20) (d := (some 72)) (v := undef) rfl rfl (by kernel_rfl) (by kernel_rfl) (by kernel_rfl) (fun _ _ _ h => h) (Or.inr ⟨by rfl, rfl⟩) (by assumption) ?_
            simp only [Act.put, List.setIfInBounds_toArray, List.set_cons_zero, List.set_cons_succ]
            refine take_at (i := 21) (d := (some 73)) (v := undef) rfl rfl (by kernel_rfl) (by kernel_rfl) (by kernel_rfl) (fun _ _ _ h => h) (Or.inr ⟨by rfl, rfl⟩) (by assumption) ?_
            simp only [Act.put, List.setIfInBounds_toArray, List.set_cons_zero, List.set_cons_succ]
            refine take_at (i := 22) (d := (some 74)) (v := undef) rfl rfl (by kernel_rfl) (by kernel_rfl) (by kernel_rfl) (fun _ _ _ h => h) (Or.inr ⟨by rfl, rfl⟩) (by assumption) ?_
            simp only [Act.put, List.setIfInBounds_toArray, List.set_cons_zero, List.set_cons_succ]
            refine take_at (i := 23) (d := (some 75)) (v := undef) rfl rfl (by kernel_rfl) (by kernel_rfl) (by kernel_rfl) (fun _ _ _ h => h) (Or.inr ⟨by rfl, rfl⟩) (by assumption) ?_
            simp only [Act.put, List.setIfInBounds_toArray, List.set_cons_zero, List.set_cons_succ]
            refine take_at (i := 24) (d := (some 76)) (v := undef) rfl rfl (by kernel_rfl) (by kernel_rfl) (by kernel_rfl) (fun _ _ _ h => h) (Or.inr ⟨by rfl, rfl⟩) (by assumption) ?_
            simp only [Act.put, List.setIfInBounds_toArray, List.set_cons_zero, List.set_cons_succ]
            refine take_at (i := 25) (d := (some 77)) (v := undef) rfl rfl (by kernel_rfl) (by kernel_rfl) (by kernel_rfl) (fun _ _ _ h => h) (Or.inr ⟨by rfl, rfl⟩) (by assumption) ?_
            simp only [Act.put, List.setIfInBounds_toArray, List.set_cons_zero, List.set_cons_succ]
            refine take_at (i := 26) (d := (some 78)) (v := undef) rfl rfl (by kernel_rfl) (by kernel_rfl) (by kernel_rfl) (fun _ _ _ h => h) (Or.inr ⟨by rfl, rfl⟩) (by assumption) ?_
            simp only [Act.put, List.setIfInBounds_toArray, List.set_cons_zero, List.set_cons_succ]
            refine take_at (i := 27) (d := (some 79)) (v := undef) rfl rfl (by kernel_rfl) (by kernel_rfl) (by kernel_rfl) (fun _ _ _ h => h) (Or.inr ⟨by rfl, rfl⟩) (by assumption) ?_
            simp only [Act.put, List.setIfInBounds_toArray, List.set_cons_zero, List.set_cons_succ]
            refine take_at (i := 28) (d := (some 80)) (v := undef) rfl rfl (by kernel_rfl) (by kernel_rfl) (by kernel_rfl) (fun _ _ _ h => h) (Or.inr ⟨by rfl, rfl⟩) (by assumption) ?_
            simp only [Act.put, List.setIfInBounds_toArray, List.set_cons_zero, List.set_cons_succ]
            refine take_at (i := 29) (d := (some 81)) (v := undef) rfl rfl (by kernel_rfl) (by kernel_rfl) (by kernel_rfl) (fun _ _ _ h => h) (Or.inr ⟨by rfl, rfl⟩) (by assumption) ?_
            simp only [Act.put, List.setIfInBounds_toArray, List.set_cons_zero, List.set_cons_succ]
            refine take_at (i := 30) (d := (some 82)) (v := undef) rfl rfl (by kernel_rfl) (by kernel_rfl) (by kernel_rfl) (fun _ _ _ h => h) (Or.inr ⟨by rfl, rfl⟩) (by assumption) ?_
            simp only [Act.put, List.setIfInBounds_toArray, List.set_cons_zero, List.set_cons_succ]
            refine take_at (i := 31) (d := (some 83)) (v := undef) rfl rfl (by kernel_rfl) (by kernel_rfl) (by kernel_rfl) (fun _ _ _ h => h) (Or.inr ⟨by rfl, rfl⟩) (by assumption) ?_
            simp only [Act.put, List.setIfInBounds_toArray, List.set_cons_zero, List.set_cons_succ]
            refine take_at (i := 32) (d := (some 84)) (v := undef) rfl rfl (by kernel_rfl) (by kernel_rfl) (by kernel_rfl) (fun _ _ _ h => h) (Or.inr ⟨by rfl, rfl⟩) (by assumption) ?_
            simp only [Act.put, List.setIfInBounds_toArray, List.set_cons_zero, List.set_cons_succ]
            refine take_at (i := 33) (d := (some 85)) (v := undef) rfl rfl (by kernel_rfl) (by kernel_rfl) (by kernel_rfl) (fun _ _ _ h => h) (Or.inr ⟨by rfl, rfl⟩) (by assumption) ?_
            simp only [Act.put, List.setIfInBounds_toArray, List.set_cons_zero, List.set_cons_succ]
            refine take_at (i := 34) (d := (some 86)) (v := ?_) rfl rfl (by kernel_rfl) (by kernel_rfl) (by kernel_rfl) (fun _ _ _ h => h) (Or.inl ⟨by rfl, ?_⟩) (by assumption) ?_
            rotate_left; · ((intro w hSw; (try dsimp only at hSw); go_simp) <;> with_reducible rfl)
            simp only [Act.put, List.setIfInBounds_toArray, List.set_cons_zero, List.set_cons_succ]
            refine take_at (i := 35) (d := (some 87)) (v := ?_) rfl rfl (by kernel_rfl) (by kernel_rfl) (by kernel_rfl) (fun _ _ _ h => h) (Or.inl ⟨by rfl, ?_⟩) (by assumption) ?_
            rotate_left; · ((intro w hSw; (try dsimp only at hSw); go_simp) <;> with_reducible rfl)
            simp only [Act.put, List.setIfInBounds_toArray, List.set_cons_zero, List.set_cons_succ]
            refine take_at (i := 36) (d := (some 88)) (v := ?_) rfl rfl (by kernel_rfl) (by kernel_rfl) (by kernel_rfl) (fun _ _ _ h => h) (Or.inl ⟨by rfl, ?_⟩) (by assumption) ?_
            rotate_left; · ((intro w hSw; (try dsimp only at hSw); go_simp) <;> with_reducible rfl)
            simp only [Act.put, List.setIfInBounds_toArray, List.set_cons_zero, List.set_cons_succ]
            refine take_at (i := 37) (d := (some 89)) (v := ?_) rfl rfl (by kernel_rfl) (by kernel_rfl) (by kernel_rfl) (fun _ _ _ h => h) (Or.inl ⟨by rfl, ?_⟩) (by assumption) ?_
            rotate_left; · ((intro w hSw; (try dsimp only at hSw); go_simp) <;> with_reducible rfl)
            simp only [Act.put, List.setIfInBounds_toArray, List.set_cons_zero, List.set_cons_succ]
            refine take_at (i := 38) (d := (some 90)) (v := ?_) rfl rfl (by kernel_rfl) (by kernel_rfl) (by kernel_rfl) (fun _ _ _ h => h) (Or.inl ⟨by rfl, ?_⟩) (by assumption) ?_
            rotate_left; · ((intro w hSw; (try dsimp only at hSw); go_simp) <;> with_reducible rfl)
            simp only [Act.put, List.setIfInBounds_toArray, List.set_cons_zero, List.set_cons_succ]
            refine take_at (i := 39) (d := (some 91)) (v := ?_) rfl rfl (by kernel_rfl) (by kernel_rfl) (by kernel_rfl) (fun _ _ _ h => h) (Or.inl ⟨by rfl, ?_⟩) (by assumption) ?_
            rotate_left; · ((intro w hSw; (try dsimp only at hSw); go_simp) <;> with_reducible rfl)
            simp only [Act.put, List.setIfInBounds_toArray, List.set_cons_zero, List.set_cons_succ]
            refine take_at (i := 41) (d := (some 93)) (v := ?_) rfl rfl (by kernel_rfl) (by kernel_rfl) (by kernel_rfl) (fun _ _ _ h => h) (Or.inl ⟨by rfl, ?_⟩) (by assumption) ?_
            rotate_left; · ((intro w hSw; (try dsimp only at hSw); go_simp) <;> with_reducible rfl)
            simp only [Act.put, List.setIfInBounds_toArray, List.set_cons_zero, List.set_cons_succ]
            refine take_at (i := 42) (d := (some 94)) (v := ?_) rfl rfl (by kernel_rfl) (by kernel_rfl) (by kernel_rfl) (fun _ _ _ h => h) (Or.inl ⟨by rfl, ?_⟩) (by assumption) ?_
            rotate_left; · ((intro w hSw; (try dsimp only at hSw); go_simp) <;> with_reducible rfl)
            simp only [Act.put, List.setIfInBounds_toArray, List.set_cons_zero, List.set_cons_succ]
            refine take_at (i := 43) (d := (some 95)) (v := ?_) rfl rfl (by kernel_rfl) (by kernel_rfl) (by kernel_rfl) (fun _ _ _ h => h) (Or.inl ⟨by rfl, ?_⟩) (by assumption) ?_
            rotate_left; · ((intro w hSw; (try dsimp only at hSw); go_simp) <;> with_reducible rfl)
            simp only [Act.put, List.setIfInBounds_toArray, List.set_cons_zero, List.set_cons_succ]
            refine wpAnyH_ready (rs := [40]) (by kernel_rfl) (by simp) ?_
            refine AllReadyH.cons rfl (fun K hK => ?_) AllReadyH.nil
            go_simp
            go_wp2_with (first
              | (go_at_call 12; refine (HSm _ G).out.mono ?_; rintro e w10 ⟨rfl, g10⟩; replace G := G.trans g10)
              | (go_at_call 13; refine (HC1 _ G).out.mono ?_; rintro e w11 ⟨rfl, g11⟩; replace G := G.trans g11)
              | (go_at_call 14; refine (HC2 _ G).out.mono ?_; rintro e w12 ⟨rfl, g12⟩; subst g12))
            refine hK.out _ _ (by exact (KS _ G).out) (fun hHeld => ?_)
            clear hK K
            refine wpAnyH_ready (rs := [44]) (by kernel_rfl) (by simp) ?_
            refine AllReadyH.cons rfl (fun K hK => ?_) AllReadyH.nil
            go_simp
            go_wp2_with (first
              | (go_at_call 12; refine (HSm _ G).out.mono ?_; rintro e w10 ⟨rfl, g10⟩; replace G := G.trans g10)
              | (go_at_call 13; refine (HC1 _ G).out.mono ?_; rintro e w11 ⟨rfl, g11⟩; replace G := G.trans g11)
              | (go_at_call 14; refine (HC2 _ G).out.mono ?_; rintro e w12 ⟨rfl, g12⟩; subst g12))
            refine hK.out _ _ (by exact (KS _ G).out) (fun hHeld => ?_)
            clear hK K
            refine take_at (i := 45) (d := (some 97)) (v := ?_) rfl rfl (by kernel_rfl) (by kernel_rfl) (by kernel_rfl) (fun _ _ _ h => h) (Or.inl ⟨by rfl, ?_⟩) (by assumption) ?_
            rotate_left; · ((intro w hSw; (try dsimp only at hSw); go_simp) <;> with_reducible rfl)
            simp only [Act.put, List.setIfInBounds_toArray, List.set_cons_zero, List.set_cons_succ]
            refine take_at (i := 46) (d := (some 98)) (v := ?_) rfl rfl (by kernel_rfl) (by kernel_rfl) (by kernel_rfl) (fun _ _ _ h => h) (Or.inl ⟨by rfl, ?_⟩) (by assumption) ?_
            rotate_left; · ((intro w hSw; (try dsimp only at hSw); go_simp) <;> with_reducible rfl)
            simp only [Act.put, List.setIfInBounds_toArray, List.set_cons_zero, List.set_cons_succ]
            refine wpAnyH_done (by kernel_rfl) ?_ _
            all_goals go_wp2_with fail
            go_meet
            case rel => exact ⟨rfl, Lib.hid G⟩
          · obtain ⟨bL, oL, rfl, hbL, cL0⟩ := HE9.out.doc.row.at_ (i := E'.length - 1) (by omega)
            obtain ⟨m, hm⟩ : ∃ m, E'.length - 1 = m := ⟨_, rfl⟩
            have hle : zi E' m = lv := by rw [← HLV.out]; unfold lastE; rw [if_neg hz, hm]
            rw [hm] at cL0
            have e9 : IntKind.i64.wrap ((E'.length : Int) - 1) = (m : Int) := by rw [IntWalk.i64_in _ (by omega)]; omega
            have p1 : (0 : Int) < E'.length := by omega
            have p1n : 0 < E'.length := by omega
            have p2 : (0 : Int) ≤ m := by omega
            have p3 : (m : Int) < E'.length := by omega
            obtain rfl : okv = true := by rw [← HOK.out]; exact decide_eq_true p1n
            rw [hle] at cL0
            have KB := fun w' (G : Grew w9 w') => Lib.hid ((G.cell (p := ⟨bL, oL + m, none⟩) hbL).trans cL0)
            clear hm hz hlen k0 hle cL0
            go_region_held3 (fun w' => w'.cell? ⟨g, 0, none⟩ = some (.slice (some ⟨bL, oL, none⟩) E'.length cL) ∧ w'.cell? ⟨bL, oL + m, none⟩ = some (.int .i64 lv)) (exact ⟨(KS _ G).out, (KB _ G).out⟩) ((first
              | (go_at_call 12; refine (HSm _ G).out.mono ?_; rintro e w10 ⟨rfl, g10⟩; replace G := G.trans g10)
              | (go_at_call 13; refine (HC1 _ G).out.mono ?_; rintro e w11 ⟨rfl, g11⟩; replace G := G.trans g11)
              | (go_at_call 14; refine (HC2 _ G).out.mono ?_; rintro e w12 ⟨rfl, g12⟩; subst g12)))
            all_goals go_wp2_with fail
            go_meet
            case rel => exact ⟨rfl, Lib.hid G⟩
        case rest =>
          obtain ⟨rfl, G9⟩ := hcut
          have HB8 := Lib.hid (fun b (e : v8.ownBlock = some b) => (hO8.lt b e).1)
          have HEc := Lib.hid (HE9.out.grown G9.out)
          have HOc := Lib.hid (HO9.out.grew G9.out)
          have h78 := Lib.hid (fun w' (f : Far (fun b => w7.heap.size ≤ b) wc w') => HEc.out.far f (fun e => by have := HE7.out.prog.lt; omega) (fun e => by have := HE7.out.doc.lt; omega) (fun b e e2 => by have := (HE7.out.doc.own b e).1; omega) (fun b e => Nat.le_trans HE7.out.grew.size e))
          clear KS KG HSm HC1 HC2 k0 G9 HE9 HO9 hO8
          obtain ⟨A8, c8, rfl, hc8⟩ := HOc.out.row.form
          go_upto_region 18 with fail
          go_wp2_with fail
          go_loopw [101] (fun i wz => ∃ j : Nat, j ≤ E'.length ∧ i = .int .i64 (j : Nat) ∧ Hid (Far (fun b => w7.heap.size ≤ b) wc wz) ∧ Hid (∃ zs : List Int, zs.length = E'.length ∧ OwnZ w7.heap.size 2 .i64 wz (.slice A8 E'.length c8) zs)) (fun i _ => E'.length - (intOf i).toNat)
          case atStart => exact ⟨0, Nat.zero_le _, rfl, Lib.hid (Far.refl _ _), Lib.hid ⟨E', rfl, HOc.out⟩⟩
          case round =>
            obtain ⟨j, hj, rfl, HF, HZ⟩ := hrel
            by_cases hlt : j < E'.length
            · obtain ⟨zs, hz, hOz⟩ := HZ.out
              obtain ⟨b8, c8', e8, hb8, hl8⟩ := hOz.head (by omega)
              rw [hz] at e8
              simp only [Value.slice.injEq] at e8
              obtain ⟨rfl, -, rfl⟩ := e8
              obtain ⟨cc, ff⟩ := hOz.cellJ hz.symm j (by omega)
              have hji : (j : Int) < E'.length := by omega
              have e5 : IntKind.i64.wrap ((j : Int) + 1) = ((j + 1 : Nat) : Int) := by rw [IntWalk.i64_in _ (by omega)]; omega
              have HF2 := Lib.hid (HF.out.setCell (p := ⟨b8, j, none⟩) (by exact hb8) (.int .i64 (-1)))
              have HZ2 : Hid (∃ ys : List Int, ys.length = E'.length ∧ OwnZ w7.heap.size 2 .i64 (wr.setCell ⟨b8, j, none⟩ (.int .i64 (-1))) (.slice (some ⟨b8, 0, none⟩) E'.length c8) ys) := Lib.hid ⟨zs.set j (-1), by rw [List.length_set]; exact hz, hOz.setJ j (-1) (by omega)⟩
              clear hOz hz HF HZ hc8
              go_wp2_with fail
              go_round
              case rel => exact ⟨j + 1, by omega, by first | rfl | go_num, HF2, HZ2⟩
              case measure => simp [intOf]; omega
            · obtain rfl : j = E'.length := by omega
              have HEz := Lib.hid (h78.out _ HF.out)
              go_wp2_with fail
              exact ⟨⟨k + 1, _, _, by omega, by first | rfl | go_num, HEz⟩, by simp [intOf]; omega⟩
      · obtain rfl : k = cs.length := by omega
        have HGG := Lib.hid HE.out.grew
        go_wp2_with (go_at_call 5; refine (HK _).out.mono ?_; rintro e w9 ⟨rfl, g9⟩)
        go_ret
        exact ⟨rfl, HGG.out.trans g9⟩
  · have hl' : (60 : Int) < cs.length := by omega
    go_enter Try.func3, Try.ntmps3
    go_wp2_with (go_at_call 5; refine (HK _).out.mono ?_; rintro e w2 ⟨rfl, g2⟩)
    go_ret
    exact ⟨rfl, g2⟩
-- PLAYS]
end Go.Proofs.Ytinkmpndlikgfaa
