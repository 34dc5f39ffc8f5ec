/-
  CivilNext's walk.
-/
import Derived.Test.YtinapfnhnakcjaaDoorCivV
import Derived.Deep.RegionHeld3
import Derived.Deep.DeepCutAuto
import Derived.BigRegion
import Derived.StillTailTactics
namespace Go.Proofs.YtinapfnhnakcjaaDoor
open Go.RowKit
set_option linter.unusedVariables false

theorem twelve_keep {W w' : World} {m n : Nat} {a b c p q r a' b' c' p' q' r' : Value} (g : Grew W w') (x : Six W m a b c p q r) (y : Six W n a' b' c' p' q' r') :
    w'.cell? ⟨m, 0, none⟩ = some a ∧ w'.cell? ⟨m, 1, none⟩ = some b ∧ w'.cell? ⟨m, 2, none⟩ = some c ∧ w'.cell? ⟨m, 3, none⟩ = some p ∧ w'.cell? ⟨m, 4, none⟩ = some q ∧ w'.cell? ⟨m, 5, none⟩ = some r ∧
    w'.cell? ⟨n, 0, none⟩ = some a' ∧ w'.cell? ⟨n, 1, none⟩ = some b' ∧ w'.cell? ⟨n, 2, none⟩ = some c' ∧ w'.cell? ⟨n, 3, none⟩ = some p' ∧ w'.cell? ⟨n, 4, none⟩ = some q' ∧ w'.cell? ⟨n, 5, none⟩ = some r' := by
  obtain ⟨_, c0, c1, c2, c3, c4, c5⟩ := x.grew g
  obtain ⟨_, d0, d1, d2, d3, d4, d5⟩ := y.grew g
  exact ⟨c0, c1, c2, c3, c4, c5, d0, d1, d2, d3, d4, d5⟩

theorem pair_keep {W w' : World} {p q : Addr} {a b : Value} (g : Grew W w') (hp : p.block < W.heap.size) (hq : q.block < W.heap.size) (h1 : W.cell? p = some a) (h2 : W.cell? q = some b) : w'.cell? p = some a ∧ w'.cell? q = some b :=
  ⟨(g.cell hp).trans h1, (g.cell hq).trans h2⟩
theorem six_pair (w : World) (a b c d e f a' b' c' d' e' f' : Value) (E : TypeId) : Six ((w.alloc (.cells #[a, b, c, d, e, f] E)).alloc (.cells #[a', b', c', d', e', f'] E)).drew w.heap.size a b c d e f ∧ Six ((w.alloc (.cells #[a, b, c, d, e, f] E)).alloc (.cells #[a', b', c', d', e', f'] E)).drew (w.heap.size + 1) a' b' c' d' e' f' ∧ Grew w ((w.alloc (.cells #[a, b, c, d, e, f] E)).alloc (.cells #[a', b', c', d', e', f'] E)).drew := by
  refine ⟨⟨by simp; omega, ?_, ?_, ?_, ?_, ?_, ?_⟩, ⟨by simp, ?_, ?_, ?_, ?_, ?_, ?_⟩, (((Grew.refl _).alloc _).alloc _).drew⟩ <;> simp [go_sem]

set_option maxRecDepth 1000000 in
set_option maxHeartbeats 2000000 in
theorem core_CivilNext (sec a b c p q r a' b' c' p' q' r' l : Int) (J : Nat) (w : World) (ht : Tab w) (hs : 0 ≤ sec ∧ sec ≤ 9467107200)
    (h1 : ∀ w, Tab w → Hid (Calls Tryd.prog 15 #[.int .i64 sec] w fun e w' => e = .returned (.tuple #[moment a b c p q r, .int .i64 0]) ∧ Grew w w'))
    (h2 : ∀ w, Tab w → Hid (Calls Tryd.prog 15 #[.int .i64 (sec + 1)] w fun e w' => e = .returned (.tuple #[moment a' b' c' p' q' r', .int .i64 0]) ∧ Grew w w'))
    (h3 : ∀ w, Tab w → Hid (Calls Tryd.prog 13 #[moment a b c p q r] w fun e w' => e = .returned (.tuple #[.int .i64 sec, .int .i64 0]) ∧ Grew w w'))
    (h4 : ∀ w, Tab w → Hid (Calls Tryd.prog 10 #[.int .i64 a, .int .i64 b] w fun e w' => e = .returned (.int .i64 l) ∧ Grew w w'))
    (hb : ∀ k, -1 ≤ pick6 a b c p q r k ∧ pick6 a b c p q r k ≤ 10000)
    (hst : Hid (Steps (pick6 a b c p q r) (pick6 a' b' c' p' q' r') lows (highs l) J)) :
    Calls Tryd.prog 5 #[.int .i64 sec] w fun e w' => e = .returned (.bool true) ∧ Grew w w' := by
  have hK := fun w ht => Lib.hid (civ_known w ht)
  have HB := Lib.hid hb
  clear hb
  go_enter Tryd.func5, Tryd.ntmps5
  go_wp2_with fail
  refine (h1 _ ht).out.mono ?_
  rintro e w1 ⟨rfl, g1⟩
  go_wp2_with fail
  obtain ⟨W, hW, g0, x⟩ := six_new w1 (.int .i64 a) (.int .i64 b) (.int .i64 c) (.int .i64 p) (.int .i64 q) (.int .i64 r) 32
  rw [hW]
  clear hW
  replace g0 := g1.trans g0
  clear g1
  refine (h2 _ (ht.grew g0)).out.mono ?_
  rintro e w2 ⟨rfl, g2⟩
  replace g0 := g0.trans g2
  replace x := x.grew g2
  clear g2
  obtain ⟨_, c0, c1, c2, c3, c4, c5⟩ := x.grew ((Grew.refl w2).alloc (.cells #[.int .i64 a', .int .i64 b', .int .i64 c', .int .i64 p', .int .i64 q', .int .i64 r'] 32))
  go_wp2_with fail
  clear c0 c1 c2 c3 c4 c5
  obtain ⟨W2, hW, g2, x'⟩ := six_new w2 (.int .i64 a') (.int .i64 b') (.int .i64 c') (.int .i64 p') (.int .i64 q') (.int .i64 r') 32
  rw [hW]
  clear hW
  replace g0 := g0.trans g2
  replace x := x.grew g2
  clear g2
  refine (h3 _ (ht.grew g0)).out.mono ?_
  rintro e w3 ⟨rfl, g3⟩
  replace g0 := g0.trans g3
  replace x := x.grew g3
  replace x' := x'.grew g3
  clear g3
  go_wp2_with fail
  go_cut [9, 10] (fun s t wx => ∃ m n : Nat, s = .pointer (some ⟨m, 0, none⟩) ∧ t = .pointer (some ⟨n, 0, none⟩) ∧ Six wx m (.int .i64 a) (.int .i64 b) (.int .i64 c) (.int .i64 p) (.int .i64 q) (.int .i64 r) ∧ Six wx n (.int .i64 a') (.int .i64 b') (.int .i64 c') (.int .i64 p') (.int .i64 q') (.int .i64 r') ∧ Grew w3 wx)
  case first =>
    clear g0 ht h1 h2 h3 h4 hst hK
    have G : Grew w3 w3.drew := (Grew.refl w3).drew
    go_region_held3 (fun w' => w'.cell? ⟨w1.heap.size, 0, none⟩ = some (.int .i64 a) ∧ w'.cell? ⟨w1.heap.size, 1, none⟩ = some (.int .i64 b) ∧ w'.cell? ⟨w1.heap.size, 2, none⟩ = some (.int .i64 c) ∧ w'.cell? ⟨w1.heap.size, 3, none⟩ = some (.int .i64 p) ∧ w'.cell? ⟨w1.heap.size, 4, none⟩ = some (.int .i64 q) ∧ w'.cell? ⟨w1.heap.size, 5, none⟩ = some (.int .i64 r) ∧
      w'.cell? ⟨w2.heap.size, 0, none⟩ = some (.int .i64 a') ∧ w'.cell? ⟨w2.heap.size, 1, none⟩ = some (.int .i64 b') ∧ w'.cell? ⟨w2.heap.size, 2, none⟩ = some (.int .i64 c') ∧ w'.cell? ⟨w2.heap.size, 3, none⟩ = some (.int .i64 p') ∧ w'.cell? ⟨w2.heap.size, 4, none⟩ = some (.int .i64 q') ∧ w'.cell? ⟨w2.heap.size, 5, none⟩ = some (.int .i64 r'))
      (exact twelve_keep (by repeat (first | (with_reducible exact Grew.refl _) | (with_reducible refine Grew.alloc ?_ _) | (with_reducible refine Grew.drew ?_) | (with_reducible refine Grew.setCell ?_ (by simp) _))) x x')
      (first | fail)
    all_goals clear x x' G
    all_goals go_wp2_with fail
    all_goals go_meet
    · obtain ⟨p1, p2, p3⟩ := six_pair w3 (.int .i64 a) (.int .i64 b) (.int .i64 c) (.int .i64 p) (.int .i64 q) (.int .i64 r) (.int .i64 a') (.int .i64 b') (.int .i64 c') (.int .i64 p') (.int .i64 q') (.int .i64 r') 40
      exact ⟨_, _, rfl, rfl, p1, p2, p3⟩
    · obtain ⟨p1, p2, p3⟩ := six_pair w3 (.int .i64 a') (.int .i64 b') (.int .i64 c') (.int .i64 p') (.int .i64 q') (.int .i64 r') (.int .i64 a) (.int .i64 b) (.int .i64 c) (.int .i64 p) (.int .i64 q) (.int .i64 r) 40
      exact ⟨_, _, rfl, rfl, p2, p1, p3⟩
  case rest =>
    obtain ⟨m, n, rfl, rfl, y, y', gx⟩ := hcut
    obtain ⟨_, c0, c1, c2, c3, c4, c5⟩ := x.grew gx
    clear c2 c3 c4 c5 x x' h1 h2 h3
    replace g0 := g0.trans gx
    clear gx
    go_wp2_with fail
    clear c0 c1
    refine (h4 _ (ht.grew g0)).out.mono ?_
    rintro e w4 ⟨rfl, g4⟩
    replace g0 := g0.trans g4
    replace y := y.grew g4
    replace y' := y'.grew g4
    clear g4
    go_wp2_with fail
    obtain ⟨W, hW, g4, z, _, z', _⟩ := six_two w4 (.int .i64 1900) (.int .i64 1) (.int .i64 1) (.int .i64 0) (.int .i64 0) (.int .i64 0) (.int .i64 2199) (.int .i64 12) (.int .i64 l) (.int .i64 23) (.int .i64 59) (.int .i64 59) 40
    rw [hW]
    clear hW
    replace g0 := g0.trans g4
    replace y := y.grew g4
    replace y' := y'.grew g4
    clear g4
    have G0 := Lib.hid g0
    clear g0
    go_loopw [13] (fun i wr => ∃ j : Nat, J ≤ j ∧ j ≤ 5 ∧ i = .int .i64 (j : Int) ∧ Grew W wr) (fun i _ => (intOf i).toNat)
    case atStart => exact ⟨5, hst.out.hJ, by omega, rfl, Grew.refl _⟩
    case round =>
      obtain ⟨j, hj1, hj2, rfl, hg⟩ := hrel
      have cx := pick6_cell (y.grew hg) j hj2
      have cy := pick6_cell (y'.grew hg) j hj2
      have cl := pick6_cell (z.grew hg) j hj2
      have ch := pick6_cell (z'.grew hg) j hj2
      by_cases hJ : J < j
      · obtain ⟨e1, e2⟩ := hst.out.up j hJ hj2
        rw [show pick6 2199 12 l 23 59 59 j = pick6 a b c p q r j from e1.symm] at ch
        rw [show pick6 1900 1 1 0 0 0 j = pick6 a' b' c' p' q' r' j from e2.symm] at cl
        clear e1 e2
        generalize pick6 a b c p q r j = X at cx ch
        generalize pick6 a' b' c' p' q' r' j = Y at cy cl
        have hj0 : decide (0 < (j : Int)) = true := by simp; omega
        have hj1' : decide (0 < j) = true := by simp; omega
        have hj3 : (j : Int) < 6 := by omega
        have hj4 : (0 : Int) ≤ j := by omega
        have hj5 : 0 < j := by omega
        go_wp2_with fail
        go_quiet (fail)
        go_wp2_with fail
        go_quiet (fail)
        go_wp2_with fail
        go_roundw
        case rel => exact ⟨j - 1, by omega, by omega, by congr 1; omega, hg.drewN _⟩
        case measure => simp [intOf]; omega
      · obtain rfl : J = j := by omega
        have hne : J ≠ 0 → (pick6 a b c p q r J == pick6 2199 12 l 23 59 59 J) = false := fun h => by simpa using hst.out.stop.resolve_left h
        generalize pick6 a b c p q r J = X at cx hne
        generalize pick6 2199 12 l 23 59 59 J = L at ch hne
        clear cy cl
        have hj4 : (0 : Int) ≤ J := by omega
        have hj3 : (J : Int) < 6 := by omega
        by_cases h0 : J = 0
        · have hj0 : decide (0 < (J : Int)) = false := by simp; omega
          have hj1' : decide (0 < J) = false := by simp; omega
          have hj5 : ¬0 < J := by omega
          clear h0 hne cx ch hj1
          go_wp2_with fail
          go_quiet (fail)
          go_wp2_with fail
          clear hj0 hj1' hj5
          have G := hg.drewN nq
          generalize wr.drewN nq = W5 at G ⊢
          clear hg
          go_loopw [114] (fun c wt => ∃ t : Nat, t ≤ J ∧ c = .int .i64 (t : Int) ∧ Grew W wt) (fun c _ => J - (intOf c).toNat)
          case atStart => exact ⟨0, by omega, rfl, G⟩
          case round =>
            clear G
            obtain ⟨t, ht1, rfl, hg⟩ := hrel
            by_cases htJ : t < J
            · have cx := pick6_cell (y.grew hg) t (by omega)
              have cy := pick6_cell (y'.grew hg) t (by omega)
              rw [← hst.out.low t htJ] at cy
              generalize pick6 a b c p q r t = X at cx cy
              have ht3 : (t : Int) < 6 := by omega
              have ht4 : (0 : Int) ≤ t := by omega
              go_wp2_with fail
              go_quiet (fail)
              go_wp2_with fail
              go_roundw
              case rel => exact ⟨t + 1, by omega, by simp, hg.drewN _⟩
              case measure => simp [intOf]; omega
            · obtain rfl : t = J := by omega
              have hb := HB.out t
              have cx := pick6_cell (y.grew hg) t hj2
              have cy := pick6_cell (y'.grew hg) t hj2
              rw [hst.out.nxt] at cy
              generalize pick6 a b c p q r t = X at cx cy hb
              have hm := Lib.hid (y.grew hg).1
              have hn := Lib.hid (y'.grew hg).1
              have HK : Hid (Grew w wr) := Lib.hid (G0.out.trans hg)
              clear htJ ht1 HB hst
              go_wp2_with fail
              go_still_tail 9, (by kernel_rfl)
              change wpList _ _ _ _ _ wr.drew
              have g6 : Grew wr wr.drew := (Grew.refl wr).drew
              generalize wr.drew = W6 at g6 ⊢
              clear cx cy
              go_wp2_with fail
              refine (hK _ (ht.grew (HK.out.trans g6))).out.mono ?_
              rintro e w5 ⟨rfl, g5⟩
              go_wp2_with fail
              go_ret
              exact ⟨rfl, HK.out.trans (g6.trans g5)⟩
        · have hj0 : decide (0 < (J : Int)) = true := by simp; omega
          have hj1' : decide (0 < J) = true := by simp; omega
          have hj5 : 0 < J := by omega
          replace hne := hne h0
          clear h0 hj1
          go_wp2_with fail
          go_quiet (fail)
          go_wp2_with fail
          clear hne cx ch
          clear hj0 hj1' hj5
          have G := hg.drewN nq
          generalize wr.drewN nq = W5 at G ⊢
          clear hg
          go_loopw [114] (fun c wt => ∃ t : Nat, t ≤ J ∧ c = .int .i64 (t : Int) ∧ Grew W wt) (fun c _ => J - (intOf c).toNat)
          case atStart => exact ⟨0, by omega, rfl, G⟩
          case round =>
            clear G
            obtain ⟨t, ht1, rfl, hg⟩ := hrel
            by_cases htJ : t < J
            · have cx := pick6_cell (y.grew hg) t (by omega)
              have cy := pick6_cell (y'.grew hg) t (by omega)
              rw [← hst.out.low t htJ] at cy
              generalize pick6 a b c p q r t = X at cx cy
              have ht3 : (t : Int) < 6 := by omega
              have ht4 : (0 : Int) ≤ t := by omega
              go_wp2_with fail
              go_quiet (fail)
              go_wp2_with fail
              go_roundw
              case rel => exact ⟨t + 1, by omega, by simp, hg.drewN _⟩
              case measure => simp [intOf]; omega
            · obtain rfl : t = J := by omega
              have hb := HB.out t
              have cx := pick6_cell (y.grew hg) t hj2
              have cy := pick6_cell (y'.grew hg) t hj2
              rw [hst.out.nxt] at cy
              generalize pick6 a b c p q r t = X at cx cy hb
              have hm := Lib.hid (y.grew hg).1
              have hn := Lib.hid (y'.grew hg).1
              have HK : Hid (Grew w wr) := Lib.hid (G0.out.trans hg)
              clear htJ ht1 HB hst
              go_wp2_with fail
              go_still_tail 9, (by kernel_rfl)
              change wpList _ _ _ _ _ wr.drew
              have g6 : Grew wr wr.drew := (Grew.refl wr).drew
              generalize wr.drew = W6 at g6 ⊢
              clear cx cy
              go_wp2_with fail
              refine (hK _ (ht.grew (HK.out.trans g6))).out.mono ?_
              rintro e w5 ⟨rfl, g5⟩
              go_wp2_with fail
              go_ret
              exact ⟨rfl, HK.out.trans (g6.trans g5)⟩
end Go.Proofs.YtinapfnhnakcjaaDoor
