/-
  The document's frames: what bytes begin, whose length is there.
-/
import Derived.Test.YtkoklmecijejkaaFrmB
namespace Go.Proofs.Ytkoklmecijejkaa
open Go.RowKit
set_option linter.unusedVariables false

set_option maxRecDepth 1000000 in
set_option maxHeartbeats 4000000 in
theorem ref08_body2_long (bv : Value) (L : List Nat) (size : Nat) (w : World) (hR : Row .u8 w bv L) (hB : Bytes L) (hl : L.length ≤ 5000) (h0 : 6 ≤ L.length) (hs : size ≤ 100000) (h1 : wd L 0 = 181) (h2 : wd L 1 = 98) :
    Calls Try.prog 42 #[bv, .int .i64 size] w (BodyTells size L w) := by
  have hb : bodyOf size L = (if 512 < wd L 4 + 256 * wd L 5 ∨ size < wd L 4 + 256 * wd L 5 + 8 then (2, [], false, true) else if L.length < 6 + (wd L 4 + 256 * wd L 5) then (2, [], false, false) else (2, wd L 2 :: wd L 3 :: (L.drop 6).take (wd L 4 + 256 * wd L 5), true, false)) := by
    unfold bodyOf; rw [if_neg (by omega), if_pos h1, if_neg (fun h => h.2 h2), if_neg (by omega)]
  obtain ⟨Ax, cx, rfl, hcx, hr⟩ := hR
  obtain ⟨rb, ro, rfl, hrb, hcell⟩ := hr (by omega)
  have y0 := hcell 0 (by omega)
  rw [Nat.add_zero, h1] at y0
  have y1 := hcell 1 (by omega)
  rw [h2] at y1
  have y4 := hcell 4 (by omega)
  have y5 := hcell 5 (by omega)
  have x4 := hB 4
  have x5 := hB 5
  have n0 : (0 : Int) < L.length := by omega
  have n1 : (1 : Int) < L.length := by omega
  have n4 : (4 : Int) < L.length := by omega
  have n5 : (5 : Int) < L.length := by omega
  have n6 : ¬ (L.length : Int) < 6 := by omega
  have KS : ∀ w', Grew w w' → Hid (w'.cell? ⟨rb, ro + 4, none⟩ = some (.int .u8 (wd L 4 : Nat)) ∧ w'.cell? ⟨rb, ro + 5, none⟩ = some (.int .u8 (wd L 5 : Nat))) := fun w' g => Lib.hid ⟨(g.cell (p := ⟨rb, ro + 4, none⟩) hrb).trans y4, (g.cell (p := ⟨rb, ro + 5, none⟩) hrb).trans y5⟩
  have KT : ∀ w', Grew w w' → Hid (w'.cell? ⟨rb, ro + 2, none⟩ = some (.int .u8 (wd L 2 : Nat)) ∧ w'.cell? ⟨rb, ro + 3, none⟩ = some (.int .u8 (wd L 3 : Nat))) := fun w' g => Lib.hid ⟨(g.cell (p := ⟨rb, ro + 2, none⟩) hrb).trans (hcell 2 (by omega)), (g.cell (p := ⟨rb, ro + 3, none⟩) hrb).trans (hcell 3 (by omega))⟩
  have HR : Hid (Row .u8 w (.slice (some ⟨rb, ro, none⟩) L.length cx) L) := Lib.hid ⟨_, cx, rfl, hcx, hr⟩
  have HL := hB
  generalize hk2 : wd L 2 = v2 at *
  generalize hk3 : wd L 3 = v3 at *
  generalize hk4 : wd L 4 = v4 at *
  generalize hk5 : wd L 5 = v5 at *
  have e1 : IntKind.i64.wrap (256 * (v5 : Int)) = 256 * (v5 : Int) := IntWalk.i64_in _ (by omega)
  have e3 : IntKind.i64.wrap (v4 : Int) = v4 := IntWalk.i64_in _ (by omega)
  have e4 : IntKind.i64.wrap (v5 : Int) = v5 := IntWalk.i64_in _ (by omega)
  have e2 : IntKind.i64.wrap ((v4 : Int) + 256 * (v5 : Int)) = ((v4 + 256 * v5 : Nat) : Int) := by rw [IntWalk.i64_in _ (by omega)]; omega
  have hn : v4 + 256 * v5 < 65536 := by omega
  have q2 : v2 < 256 := by rw [← hk2]; exact hB 2
  have q3 : v3 < 256 := by rw [← hk3]; exact hB 3
  generalize v4 + 256 * v5 = n at *
  clear hcell hr hB y4 y5 HL hk2 hk3 hk4 hk5
  go_enter Try.func42, Try.ntmps42
  go_wp2_with fail
  have B := Begun.newK w 34 2
  generalize (w.alloc (.cells #[.int .u8 0, .slice none 0 0] 34)).alloc (.cells #[.int .u8 ((2 : Nat) : Int), .slice none 0 0] 34) = W at *
  have BD : Begun w W.drew 2 (.slice none 0 0) := B.grow (Below.refl _ _).drew
  clear B
  go_region_held3 (fun w' => w'.cell? ⟨rb, ro + 4, none⟩ = some (.int .u8 v4) ∧ w'.cell? ⟨rb, ro + 5, none⟩ = some (.int .u8 v5)) (exact (KS _ BD.g).out) (fail)
  clear KS e1 e2 e3 e4 x4 x5
  generalize W.drew = V at *
  have f0 := BD.f0
  have f1 := BD.f1
  have r0 := BD.r0
  have r1 := BD.r1
  have fr0 := BD.fr0
  have fr1 := BD.fr1
  rcases (show 512 < n ∨ (n ≤ 512 ∧ size < n + 8) ∨ (n ≤ 512 ∧ n + 8 ≤ size ∧ L.length < 6 + n) ∨ (n ≤ 512 ∧ n + 8 ≤ size ∧ 6 + n ≤ L.length) by omega) with hc | hc | hc | hc
  · rw [if_pos (.inl hc)] at hb
    have c1 : (512 : Int) < n := by omega
    have HF := fun x y => Lib.hid (BD.told [] false true hb (fun h => by cases h) x y)
    clear hb KT HR BD
    go_wp2_with fail
    refine bodyPost_ret (by simp [results, Try.results42, go_sem, r0, r1]; try rfl) rfl ?_
    exact (HF _ _).out
  · rw [if_pos (.inr hc.2)] at hb
    have c1 : ¬ (512 : Int) < n := by omega
    have c2 : (size : Int) < n + 8 := by omega
    have HF := fun x y => Lib.hid (BD.told [] false true hb (fun h => by cases h) x y)
    clear hb KT HR BD
    go_wp2_with fail
    refine bodyPost_ret (by simp [results, Try.results42, go_sem, r0, r1]; try rfl) rfl ?_
    exact (HF _ _).out
  · rw [if_neg (by omega), if_pos hc.2.2] at hb
    have c1 : ¬ (512 : Int) < n := by omega
    have c2 : ¬ (size : Int) < n + 8 := by omega
    have c3 : (L.length : Int) < 6 + n := by omega
    have HF := fun x y => Lib.hid (BD.told [] false false hb (fun h => Own.nil _ _ _ _) x y)
    clear hb KT HR BD
    go_wp2_with fail
    refine bodyPost_ret (by simp [results, Try.results42, go_sem, r0, r1]; try rfl) rfl ?_
    exact (HF _ _).out
  · rw [if_neg (by omega), if_neg (by omega)] at hb
    have c1 : ¬ (512 : Int) < n := by omega
    have c2 : ¬ (size : Int) < n + 8 := by omega
    have c3 : ¬ (L.length : Int) < 6 + n := by omega
    have hcut := HR.out.cut 6 (by omega)
    obtain ⟨u, HU⟩ : ∃ u, Hid ([v2, v3] ++ (L.drop 6).take n = u) := ⟨_, Lib.hid rfl⟩
    have hb' : bodyOf size L = (2, u, true, false) := by rw [hb, ← HU.out]; rfl
    clear hb
    have hb := hb'
    clear hb'
    rcases Decidable.em (cx = 6) with h6 | h6
    · subst h6
      have hn0 : n = 0 := by omega
      have HCUT : ∀ w', Grew w w' → Hid (Row .u8 w' (.slice (some ⟨rb, ro, none⟩) 0 0) ((L.drop 6).take n)) := fun w' g => by
        subst hn0
        exact ⟨_, 0, rfl, by simp, fun h => by simp at h⟩
      clear HR hcut hn0
      have e8 : IntKind.i64.wrap (6 + (n : Int)) = 6 + n := IntWalk.i64_in _ (by omega)
      have m0 : (0 : Int) ≤ n := by omega
      have m1 : (6 : Int) ≤ 6 + n := by omega
      have m2 : 6 + (n : Int) ≤ 6 := by omega
      have m4 : 6 ≤ 6 + n := by omega
      have m5 : 6 + n ≤ 6 := by omega
      have n2 : (2 : Int) < L.length := by omega
      have n3 : (3 : Int) < L.length := by omega
      have HO := Lib.hid ((own_lit (B := V.heap.size) V 5 #[.int .u8 v2, .int .u8 v3] [v2, v3] 2 (Nat.le_refl _) rfl rfl (by simp [maxLen])).drew)
      have GW := ((Grew.refl V).alloc (.cells #[.int .u8 v2, .int .u8 v3] 5)).drew
      have HC := HCUT _ (BD.g.trans GW)
      have HSZ := Lib.hid BD.sz
      clear HCUT f0 f1 r0 r1 fr0 fr1 c1 c2 y0 y1
      go_wp2_with fail
      go_region_held3 (fun w' => w'.cell? ⟨rb, ro + 2, none⟩ = some (.int .u8 v2) ∧ w'.cell? ⟨rb, ro + 3, none⟩ = some (.int .u8 v3)) (first | exact (KT _ (BD.g.trans D)).out | exact (KT _ ((BD.g.trans D).setCell (by show _ ≤ w.heap.size + 1; omega) _)).out | exact (KT _ (BD.g.trans GW)).out | exact (KT _ BD.g.drew).out) (first | (refine step_joinN _ rfl _ _ 23 rfl V.heap.size 5 .u8 1 Try.underlying23 infoU8 (.slice (some ⟨V.heap.size, 0, none⟩) 2 2) [v2, v3] rfl HO.out _ ((L.drop 6).take n) rfl HC.out (by simp; omega) (by decide) GW.size ?_; intro v1 w1 hown hgrow hnil; rw [HU.out] at hown; have D := Grew.push GW HO.out hgrow; obtain ⟨b2, cp, rfl, hb2, hlt3, hcp⟩ := hown.head (hnil (by simp)); have B1 := BD.grow (Below.mono D HSZ.out); have t1 := B1.f1; have t2 := B1.ff1))
      have B2 := B1.body (.slice (some ⟨b2, 0, none⟩) u.length cp)
      have hown2 : Own (w.heap.size + 2) 5 .u8 (w1.setCell ⟨w.heap.size + 1, 1, none⟩ (.slice (some ⟨b2, 0, none⟩) u.length cp)) (.slice (some ⟨b2, 0, none⟩) u.length cp) u :=
        own_base (hown.far (Far.one w1 ⟨w.heap.size + 1, 1, none⟩ _) (fun b hb' e => by have := World.ownsRow.lt hown b hb'; have := HSZ.out; simp only at e; omega)) HSZ.out
      have HF := fun x y => Lib.hid (B2.told _ true false hb (fun _ => hown2) x y)
      clear hown hown2 hgrow hnil D B1 t1 t2 HC GW HO KT BD HSZ hb
      generalize w1.setCell ⟨w.heap.size + 1, 1, none⟩ (.slice (some ⟨b2, 0, none⟩) u.length cp) = V2 at *
      have f0 := B2.f0
      have f1 := B2.f1
      have r0 := B2.r0
      have r1 := B2.r1
      have fr0 := B2.fr0
      have fr1 := B2.fr1
      clear B2
      go_wp2_with fail
      refine bodyPost_ret (by simp [results, Try.results42, go_sem, r0, r1]; try rfl) rfl ?_
      exact (HF _ _).out
    · rw [if_neg h6] at hcut
      have hct := hcut.take (m := n) (by rw [List.length_drop]; omega)
      have hen : (6 + (n : Int)).toNat - 6 = n := by omega
      rw [show Value.slice (some ⟨rb, ro + 6, none⟩) n (cx - 6) = Value.slice (some ⟨rb, ro + 6, none⟩) ((6 + (n : Int)).toNat - 6) (cx - 6) by rw [hen]] at hct
      have HCUT := fun w' (g : Grew w w') => Lib.hid (hct.grew g)
      clear HR hcut hct hen
      have e8 : IntKind.i64.wrap (6 + (n : Int)) = 6 + n := IntWalk.i64_in _ (by omega)
      have m0 : (0 : Int) ≤ n := by omega
      have m1 : (6 : Int) ≤ 6 + n := by omega
      have m2 : 6 + (n : Int) ≤ cx := by omega
      have m4 : 6 ≤ 6 + n := by omega
      have m5 : 6 + n ≤ cx := by omega
      have n2 : (2 : Int) < L.length := by omega
      have n3 : (3 : Int) < L.length := by omega
      have HO := Lib.hid ((own_lit (B := V.heap.size) V 5 #[.int .u8 v2, .int .u8 v3] [v2, v3] 2 (Nat.le_refl _) rfl rfl (by simp [maxLen])).drew)
      have GW := ((Grew.refl V).alloc (.cells #[.int .u8 v2, .int .u8 v3] 5)).drew
      have HC := HCUT _ (BD.g.trans GW)
      have HSZ := Lib.hid BD.sz
      clear HCUT f0 f1 r0 r1 fr0 fr1 c1 c2 y0 y1
      go_wp2_with fail
      go_region_held3 (fun w' => w'.cell? ⟨rb, ro + 2, none⟩ = some (.int .u8 v2) ∧ w'.cell? ⟨rb, ro + 3, none⟩ = some (.int .u8 v3)) (first | exact (KT _ (BD.g.trans D)).out | exact (KT _ ((BD.g.trans D).setCell (by show _ ≤ w.heap.size + 1; omega) _)).out | exact (KT _ (BD.g.trans GW)).out | exact (KT _ BD.g.drew).out) (first | (refine step_joinN _ rfl _ _ 23 rfl V.heap.size 5 .u8 1 Try.underlying23 infoU8 (.slice (some ⟨V.heap.size, 0, none⟩) 2 2) [v2, v3] rfl HO.out _ ((L.drop 6).take n) rfl HC.out (by simp; omega) (by decide) GW.size ?_; intro v1 w1 hown hgrow hnil; rw [HU.out] at hown; have D := Grew.push GW HO.out hgrow; obtain ⟨b2, cp, rfl, hb2, hlt3, hcp⟩ := hown.head (hnil (by simp)); have B1 := BD.grow (Below.mono D HSZ.out); have t1 := B1.f1; have t2 := B1.ff1))
      have B2 := B1.body (.slice (some ⟨b2, 0, none⟩) u.length cp)
      have hown2 : Own (w.heap.size + 2) 5 .u8 (w1.setCell ⟨w.heap.size + 1, 1, none⟩ (.slice (some ⟨b2, 0, none⟩) u.length cp)) (.slice (some ⟨b2, 0, none⟩) u.length cp) u :=
        own_base (hown.far (Far.one w1 ⟨w.heap.size + 1, 1, none⟩ _) (fun b hb' e => by have := World.ownsRow.lt hown b hb'; have := HSZ.out; simp only at e; omega)) HSZ.out
      have HF := fun x y => Lib.hid (B2.told _ true false hb (fun _ => hown2) x y)
      clear hown hown2 hgrow hnil D B1 t1 t2 HC GW HO KT BD HSZ hb
      generalize w1.setCell ⟨w.heap.size + 1, 1, none⟩ (.slice (some ⟨b2, 0, none⟩) u.length cp) = V2 at *
      have f0 := B2.f0
      have f1 := B2.f1
      have r0 := B2.r0
      have r1 := B2.r1
      have fr0 := B2.fr0
      have fr1 := B2.fr1
      clear B2
      go_wp2_with fail
      refine bodyPost_ret (by simp [results, Try.results42, go_sem, r0, r1]; try rfl) rfl ?_
      exact (HF _ _).out
end Go.Proofs.Ytkoklmecijejkaa
