/-
  The program's sentences: the fields that may not be empty.
-/
import Derived.Test.YtajgicliepenkaaDoorNmpH
import Derived.Deep.RegionHeld3
import Derived.LoopTactic
namespace Go.Proofs.YtajgicliepenkaaDoor
open Go.RowKit
set_option linter.unusedVariables false

/-- Places of fields, in memory. -/
def PlacesAt (w : World) (E : Nat) (v : Value) (ps : List Nat) : Prop :=
  ∃ A c, v = .slice A ps.length c ∧ ps.length ≤ c ∧ (0 < ps.length → ∃ g, A = some ⟨g, 0, none⟩ ∧ g < w.heap.size ∧ g ≠ E ∧ ∀ (i : Nat) p, ps[i]? = some p → w.cell? ⟨g, i, none⟩ = some (.int .i64 (p : Nat)))
/-- The first k of those fields may not be empty. -/
def needTo (f : Nat → List Nat) (ps : List Nat) : Nat → Rs → Rs
  | 0, s => s
  | k + 1, s => sNeed f (ps.getD k 0) (needTo f ps k s)
section
variable {w w' : World} {S n c E X : Nat} {bs : List ByteArray} {s : Rs}
theorem need_bool (x : ByteArray) (s : Rs) : (s.1, s.2 || !!x.toList.isEmpty) = (s.1, s.2 || (nat x).isEmpty) := by
  rw [Bool.not_not, is_empty]
  congr 2
  rw [Bool.eq_iff_iff, decide_eq_true_eq, List.isEmpty_iff_length_eq_zero, nat_length]
theorem ask_kept {B S n c E j : Nat} {w0 w : World} {x : ByteArray} (hB : B < w0.heap.size) (hE : B ≠ E) (g0 : FarE E w0 w) (hS : S < w.heap.size) (hSE : S ≠ E) (d0 : w0.cell? ⟨B, 0, none⟩ = some (.slice (some ⟨S, 0, none⟩) n c)) (d1 : w0.cell? ⟨B, 1, none⟩ = some (.func (.func 9) #[] #[.pointer (some ⟨E, 0, none⟩)])) (c0 : w.cell? ⟨S, j, none⟩ = some (.string x)) :
    ∀ w', FarE E w w' → w'.cell? ⟨B, 0, none⟩ = some (.slice (some ⟨S, 0, none⟩) n c) ∧ w'.cell? ⟨B, 1, none⟩ = some (.func (.func 9) #[] #[.pointer (some ⟨E, 0, none⟩)]) ∧ w'.cell? ⟨S, j, none⟩ = some (.string x) :=
  fun w' g => ⟨((g0.trans g).cell (p := ⟨B, 0, none⟩) hB hE).trans d0, ((g0.trans g).cell (p := ⟨B, 1, none⟩) hB hE).trans d1, (g.cell (p := ⟨S, j, none⟩) hS hSE).trans c0⟩
set_option maxHeartbeats 4000000 in
set_option maxRecDepth 100000 in
theorem r_need (h : Rd w S n c bs E X s) (v : Value) (ps : List Nat) (hp : PlacesAt w E v ps) (hps : ∀ (i : Nat) p, ps[i]? = some p → p < n) (hl : ps.length ≤ 100) :
    Calls Tryd.prog 10 #[rv S n c E, v] w (Rdt w S n c bs E X (needTo (fb bs) ps ps.length s) (.tuple #[])) := by
  obtain ⟨A, c', rfl, hc', hr⟩ := hp
  obtain ⟨W, hW, gW, ltW, d0, d1⟩ := boxR w S n c E
  have hEl := h.hE
  have hXl := h.hX
  have HH := Lib.hid (h.grew gW)
  have GW := Lib.hid gW
  have HR := Lib.hid hr
  have HPS := Lib.hid hps
  clear h gW hr hps
  unfold rv
  go_enter Tryd.func10, Tryd.ntmps10
  go_upto_region 1 with fail
  go_wp2_with fail
  go_loopw [5, 8] (fun q i wr => ∃ k : Nat, k ≤ ps.length ∧ i = .int .i64 (k : Nat) ∧ Hid (Rd wr S n c bs E X (needTo (fb bs) ps k s)) ∧ Hid (FarE E W wr)) (fun _ i _ => ps.length - (intOf i).toNat)
  case atStart => exact ⟨0, by omega, rfl, HH, Lib.hid (Far.refl _ _)⟩
  case round =>
  obtain ⟨k, hk, rfl, HK, GK⟩ := hrel
  by_cases hlt : k < ps.length
  · obtain ⟨g, rfl, hg, hgE, hcell⟩ := HR.out (by omega)
    obtain ⟨p, hp⟩ : ∃ p, ps[k]? = some p := ⟨_, List.getElem?_eq_getElem hlt⟩
    have kp := ((GK.out.cell (p := ⟨g, k, none⟩) (Nat.lt_of_lt_of_le hg GW.out.size) hgE).trans (GW.out.cell (p := ⟨g, k, none⟩) hg)).trans (hcell k p hp)
    have hpn := HPS.out k p hp
    obtain ⟨x, hx⟩ := HK.out.ex p hpn
    have cx := HK.out.fields p x hx
    have KS := ask_kept ltW (show w.heap.size ≠ E by omega) GK.out HK.out.hS HK.out.SE d0 d1 cx
    obtain ⟨q0, q1, q2⟩ := KS _ (Far.refl _ _)
    have GD := HK.out.drew
    have HA := fun b => Lib.hid (r_ask (HK.out.grew (Grew.refl _).drew) b)
    unfold Rdt rv at HA
    have k0 : (k : Int) < ps.length := by omega
    have k1 : (0 : Int) ≤ k := by omega
    have p0 : (p : Int) < n := by omega
    have p1 : (0 : Int) ≤ p := by omega
    have hcap := HK.out.cap
    have p2 : (p : Int) < c := by omega
    have HST := Lib.hid (show needTo (fb bs) ps (k + 1) s = ((needTo (fb bs) ps k s).1, (needTo (fb bs) ps k s).2 || (nat x).isEmpty) by
      rw [needTo, List.getD_eq_getElem?_getD, hp]
      show sNeed (fb bs) p _ = _
      unfold sNeed
      rw [fb_at hx])
    have HNB := Lib.hid (need_bool x (needTo (fb bs) ps k s))
    obtain ⟨N, hN⟩ : ∃ N, ps.length = N := ⟨_, rfl⟩
    clear hcell hp hx cx d0 d1 hN hcap
    go_wp2_with fail
    go_region_held3 (fun w' => w'.cell? ⟨w.heap.size, 0, none⟩ = some (.slice (some ⟨S, 0, none⟩) n c) ∧ w'.cell? ⟨w.heap.size, 1, none⟩ = some (.func (.func 9) #[] #[.pointer (some ⟨E, 0, none⟩)]) ∧ w'.cell? ⟨S, p, none⟩ = some (.string x)) (exact KS _ GD)
      (first | (go_at_call 19; refine (HA _).out.mono ?_; rintro e w4 ⟨rfl, hh, gg⟩; replace GD := GD.trans gg))
    go_wp2_with fail
    go_roundw
    case rel => exact ⟨k + 1, by omega, by simp, Lib.hid (Rd.as (by rw [HST.out, ← HNB.out]) hh), Lib.hid (GK.out.trans GD)⟩
    case measure => simp [intOf]; omega
  obtain rfl : k = ps.length := by omega
  go_wp2_with fail
  go_returns
  exact ⟨rfl, HK.out, (Far.of_grew GW.out).trans GK.out⟩
end
end Go.Proofs.YtajgicliepenkaaDoor
