/-
  The document's frames: what bytes begin, whose length is there, of the other kind.
-/
import Derived.Test.YtkoklmecijejkaaFrmB
namespace Go.Proofs.Ytkoklmecijejkaa
open Go.RowKit
set_option linter.unusedVariables false

set_option maxRecDepth 1000000 in
set_option maxHeartbeats 4000000 in
theorem ref08_body3_long (bv : Value) (L : List Nat) (size : Nat) (w : World) (hR : Row .u8 w bv L) (hB : Bytes L) (hl : L.length ≤ 5000) (h0 : 4 ≤ L.length) (hs : size ≤ 100000) (h1 : wd L 0 = 160) (h2 : wd L 1 = 162) :
    Calls Try.prog 42 #[bv, .int .i64 size] w (BodyTells size L w) := by
  have hb : bodyOf size L = (if 1023 < 256 * wd L 2 + wd L 3 ∨ size < 256 * wd L 2 + wd L 3 + 8 then (3, [], false, true) else if L.length < 4 + (256 * wd L 2 + wd L 3) then (3, [], false, false) else (3, (L.drop 4).take (256 * wd L 2 + wd L 3), true, false)) := by
    unfold bodyOf; rw [if_neg (by omega), if_neg (by omega), if_pos h1, if_neg (fun h => h.2 h2), if_neg (by omega)]
  obtain ⟨Ax, cx, rfl, hcx, hr⟩ := hR
  obtain ⟨rb, ro, rfl, hrb, hcell⟩ := hr (by omega)
  have y0 := hcell 0 (by omega)
  rw [Nat.add_zero, h1] at y0
  have y1 := hcell 1 (by omega)
  rw [h2] at y1
  have y4 := hcell 2 (by omega)
  have y5 := hcell 3 (by omega)
  have x4 := hB 2
  have x5 := hB 3
  have n0 : (0 : Int) < L.length := by omega
  have n1 : (1 : Int) < L.length := by omega
  have n4 : (2 : Int) < L.length := by omega
  have n5 : (3 : Int) < L.length := by omega
  have n6 : ¬ (L.length : Int) < 4 := by omega
  have KS : ∀ w', Grew w w' → Hid (w'.cell? ⟨rb, ro + 2, none⟩ = some (.int .u8 (wd L 2 : Nat)) ∧ w'.cell? ⟨rb, ro + 3, none⟩ = some (.int .u8 (wd L 3 : Nat))) := fun w' g => Lib.hid ⟨(g.cell (p := ⟨rb, ro + 2, none⟩) hrb).trans y4, (g.cell (p := ⟨rb, ro + 3, none⟩) hrb).trans y5⟩
  have HR : Hid (Row .u8 w (.slice (some ⟨rb, ro, none⟩) L.length cx) L) := Lib.hid ⟨_, cx, rfl, hcx, hr⟩
  have HL := hB
  generalize wd L 2 = v4 at *
  generalize wd L 3 = v5 at *
  have e1 : IntKind.i64.wrap (256 * (v4 : Int)) = 256 * (v4 : Int) := IntWalk.i64_in _ (by omega)
  have e3 : IntKind.i64.wrap (v4 : Int) = v4 := IntWalk.i64_in _ (by omega)
  have e4 : IntKind.i64.wrap (v5 : Int) = v5 := IntWalk.i64_in _ (by omega)
  have e2 : IntKind.i64.wrap (256 * (v4 : Int) + v5) = ((256 * v4 + v5 : Nat) : Int) := by rw [IntWalk.i64_in _ (by omega)]; omega
  have hn : 256 * v4 + v5 < 65536 := by omega
  generalize 256 * v4 + v5 = n at *
  clear hcell hr hB y4 y5 HL
  go_enter Try.func42, Try.ntmps42
  go_wp2_with fail
  have B := Begun.newK w 34 3
  generalize (w.alloc (.cells #[.int .u8 0, .slice none 0 0] 34)).alloc (.cells #[.int .u8 ((3 : Nat) : Int), .slice none 0 0] 34) = W at *
  have BD : Begun w W.drew 3 (.slice none 0 0) := B.grow (Below.refl _ _).drew
  clear B
  go_region_held3 (fun w' => w'.cell? ⟨rb, ro + 2, none⟩ = some (.int .u8 v4) ∧ w'.cell? ⟨rb, ro + 3, none⟩ = some (.int .u8 v5)) (exact (KS _ BD.g).out) (fail)
  clear KS e1 e2 e3 e4 x4 x5
  generalize W.drew = V at *
  have f0 := BD.f0
  have f1 := BD.f1
  have r0 := BD.r0
  have r1 := BD.r1
  have fr0 := BD.fr0
  have fr1 := BD.fr1
  rcases (show 1023 < n ∨ (n ≤ 1023 ∧ size < n + 8) ∨ (n ≤ 1023 ∧ n + 8 ≤ size ∧ L.length < 4 + n) ∨ (n ≤ 1023 ∧ n + 8 ≤ size ∧ 4 + n ≤ L.length) by omega) with hc | hc | hc | hc
  · rw [if_pos (.inl hc)] at hb
    have c1 : (1023 : Int) < n := by omega
    have HF := fun x y => Lib.hid (BD.told [] false true hb (fun h => by cases h) x y)
    clear hb HR BD
    go_wp2_with fail
    refine bodyPost_ret (by simp [results, Try.results42, go_sem, r0, r1]; try rfl) rfl ?_
    exact (HF _ _).out
  · rw [if_pos (.inr hc.2)] at hb
    have c1 : ¬ (1023 : Int) < n := by omega
    have c2 : (size : Int) < n + 8 := by omega
    have HF := fun x y => Lib.hid (BD.told [] false true hb (fun h => by cases h) x y)
    clear hb HR BD
    go_wp2_with fail
    refine bodyPost_ret (by simp [results, Try.results42, go_sem, r0, r1]; try rfl) rfl ?_
    exact (HF _ _).out
  · rw [if_neg (by omega), if_pos hc.2.2] at hb
    have c1 : ¬ (1023 : Int) < n := by omega
    have c2 : ¬ (size : Int) < n + 8 := by omega
    have c3 : (L.length : Int) < 4 + n := by omega
    have HF := fun x y => Lib.hid (BD.told [] false false hb (fun h => Own.nil _ _ _ _) x y)
    clear hb HR BD
    go_wp2_with fail
    refine bodyPost_ret (by simp [results, Try.results42, go_sem, r0, r1]; try rfl) rfl ?_
    exact (HF _ _).out
  · rw [if_neg (by omega), if_neg (by omega)] at hb
    have c1 : ¬ (1023 : Int) < n := by omega
    have c2 : ¬ (size : Int) < n + 8 := by omega
    have c3 : ¬ (L.length : Int) < 4 + n := by omega
    have hcut := HR.out.cut 4 (by omega)
    generalize hu : (L.drop 4).take n = u at *
    have HU := Lib.hid hu
    clear hu
    have HUL : Hid (u.length ≤ 1023) := by show _ ≤ _; rw [← HU.out, List.length_take]; omega
    rcases Decidable.em (cx = 4) with h6 | h6
    · subst h6
      have hn0 : n = 0 := by omega
      have HCUT : ∀ w', Grew w w' → Hid (Row .u8 w' (.slice (some ⟨rb, ro, none⟩) 0 0) u) := fun w' g => by
        rw [← HU.out]
        subst hn0
        exact ⟨_, 0, rfl, by simp, fun h => by simp at h⟩
      have HCUT2 := HCUT
      clear HR hcut hn0
      have m0 : (0 : Int) ≤ n := by omega
      have m2 : 4 + (n : Int) ≤ 4 := by omega
      have HO := Lib.hid (own_lit (B := V.heap.size) V 5 #[] [] 0 (Nat.le_refl _) rfl rfl (by simp [maxLen]))
      have GW := (Grew.refl V).alloc (.cells #[] 5)
      have HC := HCUT _ (BD.g.trans GW)
      have HC2 := HCUT2 _ (BD.g.trans GW)
      have HSZ := Lib.hid BD.sz
      clear HCUT HCUT2 y0 y1
      go_wp2_with (refine wpList_joinN _ rfl _ _ 23 rfl V.heap.size 5 .u8 1 Try.underlying23 infoU8 (.slice (some ⟨V.heap.size, 0, none⟩) 0 0) [] rfl HO.out _ u rfl (by first | exact HC.out | exact HC2.out) (by have := HUL.out; simp; omega) (by decide) GW.size ?_; intro v1 w1 hown hgrow hnil; rw [List.nil_append] at hown; have D := Grew.push GW HO.out hgrow; obtain ⟨b2, cp, rfl, hb2, hlt3, hcp⟩ := hown.head (hnil (by simp)); have B1 := BD.grow (Below.mono D HSZ.out); have t0 := B1.f0; have t1 := B1.f1; have t2 := B1.ff1; have t3 := B1.r0; have t4 := B1.r1; have t5 := B1.fr0; have t6 := B1.fr1)
      have B2 := B1.body (.slice (some ⟨b2, 0, none⟩) u.length cp)
      have hown2 : Own (w.heap.size + 2) 5 .u8 (w1.setCell ⟨w.heap.size + 1, 1, none⟩ (.slice (some ⟨b2, 0, none⟩) u.length cp)) (.slice (some ⟨b2, 0, none⟩) u.length cp) u :=
        own_base (hown.far (Far.one w1 ⟨w.heap.size + 1, 1, none⟩ _) (fun b hb' e => by have := World.ownsRow.lt hown b hb'; have := HSZ.out; simp only at e; omega)) HSZ.out
      have HF := fun x y => Lib.hid (B2.told _ true false hb (fun _ => hown2) x y)
      have u0 := B2.r0
      have u1 := B2.r1
      clear hown hown2 hgrow hnil D B1 t0 t1 t2 t3 t4 t5 t6 B2
      generalize w1.setCell ⟨w.heap.size + 1, 1, none⟩ (.slice (some ⟨b2, 0, none⟩) u.length cp) = V2 at *
      refine bodyPost_ret (by simp [results, Try.results42, go_sem, u0, u1]; try rfl) rfl ?_
      exact (HF _ _).out
    · rw [if_neg h6] at hcut
      have hct := hcut.take (m := n) (by rw [List.length_drop]; omega)
      rw [HU.out] at hct
      have hen : (4 + (n : Int)).toNat - 4 = n := by omega
      have hct2 := hct
      rw [show Value.slice (some ⟨rb, ro + 4, none⟩) n (cx - 4) = Value.slice (some ⟨rb, ro + 4, none⟩) ((4 + (n : Int)).toNat - 4) (cx - 4) by rw [hen]] at hct2
      have HCUT := fun w' (g : Grew w w') => Lib.hid (hct.grew g)
      have HCUT2 := fun w' (g : Grew w w') => Lib.hid (hct2.grew g)
      clear HR hcut hct hct2 hen
      have m0 : (0 : Int) ≤ n := by omega
      have m2 : 4 + (n : Int) ≤ cx := by omega
      have HO := Lib.hid (own_lit (B := V.heap.size) V 5 #[] [] 0 (Nat.le_refl _) rfl rfl (by simp [maxLen]))
      have GW := (Grew.refl V).alloc (.cells #[] 5)
      have HC := HCUT _ (BD.g.trans GW)
      have HC2 := HCUT2 _ (BD.g.trans GW)
      have HSZ := Lib.hid BD.sz
      clear HCUT HCUT2 y0 y1
      go_wp2_with (refine wpList_joinN _ rfl _ _ 23 rfl V.heap.size 5 .u8 1 Try.underlying23 infoU8 (.slice (some ⟨V.heap.size, 0, none⟩) 0 0) [] rfl HO.out _ u rfl (by first | exact HC.out | exact HC2.out) (by have := HUL.out; simp; omega) (by decide) GW.size ?_; intro v1 w1 hown hgrow hnil; rw [List.nil_append] at hown; have D := Grew.push GW HO.out hgrow; obtain ⟨b2, cp, rfl, hb2, hlt3, hcp⟩ := hown.head (hnil (by simp)); have B1 := BD.grow (Below.mono D HSZ.out); have t0 := B1.f0; have t1 := B1.f1; have t2 := B1.ff1; have t3 := B1.r0; have t4 := B1.r1; have t5 := B1.fr0; have t6 := B1.fr1)
      have B2 := B1.body (.slice (some ⟨b2, 0, none⟩) u.length cp)
      have hown2 : Own (w.heap.size + 2) 5 .u8 (w1.setCell ⟨w.heap.size + 1, 1, none⟩ (.slice (some ⟨b2, 0, none⟩) u.length cp)) (.slice (some ⟨b2, 0, none⟩) u.length cp) u :=
        own_base (hown.far (Far.one w1 ⟨w.heap.size + 1, 1, none⟩ _) (fun b hb' e => by have := World.ownsRow.lt hown b hb'; have := HSZ.out; simp only at e; omega)) HSZ.out
      have HF := fun x y => Lib.hid (B2.told _ true false hb (fun _ => hown2) x y)
      have u0 := B2.r0
      have u1 := B2.r1
      clear hown hown2 hgrow hnil D B1 t0 t1 t2 t3 t4 t5 t6 B2
      generalize w1.setCell ⟨w.heap.size + 1, 1, none⟩ (.slice (some ⟨b2, 0, none⟩) u.length cp) = V2 at *
      refine bodyPost_ret (by simp [results, Try.results42, go_sem, u0, u1]; try rfl) rfl ?_
      exact (HF _ _).out
end Go.Proofs.Ytkoklmecijejkaa
