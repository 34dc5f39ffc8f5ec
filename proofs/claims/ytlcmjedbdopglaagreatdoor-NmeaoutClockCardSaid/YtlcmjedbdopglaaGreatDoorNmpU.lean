/-
  The program's sentences: Parse, whatever body.
-/
import Derived.Test.YtlcmjedbdopglaaGreatDoorNmpT
import Derived.Test.YtlcmjedbdopglaaGreatDoorNmpN
import Derived.Test.YtlcmjedbdopglaaGreatDoorNmpK
namespace Go.Proofs.YtlcmjedbdopglaaGreatDoor
open Go.RowKit
set_option linter.unusedVariables false

theorem kind_is {x0 : ByteArray} (hx : x0.size ≤ 1000) {k : Nat} (h : kindOfN (nat x0) = k + 1) (num least most g : Nat) (ps : List Nat)
    (hp : ∀ M w, NKinds w M → ∃ A m c, (nvals M).getD k (.int .i64 0) = .agg #[.int .u8 (num : Nat), .int .i64 (least : Nat), .int .i64 (most : Nat), .slice A m c, .func (.func g) #[] #[]] ∧ PlacesIn w (.slice A m c) ps) : KindIs x0 num least most g ps := by
  intro w
  refine (nk_kindOf x0 w hx).mono fun e w' q => ?_
  rcases q with ⟨gr, ⟨h0, _⟩ | ⟨j, M, _, h1, he, hN, _⟩⟩
  · omega
  · obtain rfl : j = k := by omega
    obtain ⟨A, m, c, hv, hP⟩ := hp M w' hN
    exact ⟨A, m, c, by rw [he, hv], hP, gr⟩
theorem places_of {w : World} {b n : Nat} {C : Array Value} {t : TypeId} {ps : List Nat} (h : w.heap[b]? = some (.cells C t)) (hn : ps.length = n) (hC : ∀ (i : Nat) p, ps[i]? = some p → C[i]? = some (.int .i64 (p : Nat))) : PlacesIn w (.slice (some ⟨b, 0, none⟩) n n) ps := by
  subst hn
  exact ⟨_, _, rfl, Nat.le_refl _, fun _ => ⟨b, rfl, (Array.getElem?_eq_some_iff.1 h).1, fun i p hp => by simp [World.cell?, h, hC i p hp]⟩⟩
theorem places_none (w : World) : PlacesIn w (.slice none 0 0) [] := ⟨none, 0, rfl, Nat.le_refl _, fun h => absurd h (by decide)⟩
theorem kind_le (S : List Nat) : kindOfN S ≤ 7 := by
  unfold kindOfN
  split
  · omega
  · unfold lettersOf
    repeat' split
    all_goals omega
theorem at_one {a : Nat} : ∀ (i : Nat) p, [a][i]? = some p → (#[.int .i64 (a : Nat)] : Array Value)[i]? = some (.int .i64 (p : Nat)) := by
  intro i p h
  rcases i with _ | i
  · simp at h; subst h; rfl
  · simp at h
set_option maxRecDepth 100000 in
theorem prog_Parse (s : ByteArray) (w : World) (hs : s.size ≤ 1000) : Calls Tryz.prog 8 #[.string s] w (ParseT s w) := by
  obtain ⟨x0, h0⟩ := parts_first s
  have hx : x0.size ≤ 1000 := Nat.le_trans (partsB_size s x0 (List.mem_of_getElem? h0)) hs
  have hle := kind_le (nat x0)
  obtain ⟨k, hk⟩ : ∃ k, kindOfN (nat x0) = k := ⟨_, rfl⟩
  rw [hk] at hle
  rcases (show k = 0 ∨ k = 1 ∨ k = 2 ∨ k = 3 ∨ k = 4 ∨ k = 5 ∨ k = 6 ∨ k = 7 by omega) with rfl | rfl | rfl | rfl | rfl | rfl | rfl | rfl
  · exact parse_none s x0 w hs h0 hk
  · exact parse_known s x0 w hs h0 1 11 13 57 [2] (fun f _ s => rmcOf f s) hk (by omega) rfl rfl (by omega) (fun i p hp => by rcases i with _ | i <;> simp at hp; omega) (by simp) (fun _ _ => rfl) (fun _ _ => rfl)
      (kind_is hx hk _ _ _ _ _ (fun M w h => ⟨_, _, _, rfl, places_of h.r rfl at_one⟩)) (fun w S n c bs E X s' h hn _ => r_rmc h (by omega))
  · exact parse_known s x0 w hs h0 2 14 14 58 [] (fun f _ s => ggaOf f s) hk (by omega) rfl rfl (by omega) (fun i p hp => by simp at hp) (by simp) (fun _ _ => rfl) (fun _ _ => rfl)
      (kind_is hx hk _ _ _ _ _ (fun M w h => ⟨_, _, _, rfl, places_none w⟩)) (fun w S n c bs E X s' h hn _ => r_gga h (by omega))
  · exact parse_known s x0 w hs h0 3 6 7 59 [6] (fun f _ s => gllOf f s) hk (by omega) rfl rfl (by omega) (fun i p hp => by rcases i with _ | i <;> simp at hp; omega) (by simp) (fun _ _ => rfl) (fun _ _ => rfl)
      (kind_is hx hk _ _ _ _ _ (fun M w h => ⟨_, _, _, rfl, places_of h.l rfl at_one⟩)) (fun w S n c bs E X s' h hn _ => r_gll h (by omega))
  · exact parse_known s x0 w hs h0 4 17 18 60 [1, 2] (fun f _ s => gsaOf f s) hk (by omega) rfl rfl (by omega) (fun i p hp => by rcases i with _ | _ | i <;> simp at hp <;> omega) (by simp) (fun _ _ => rfl) (fun _ _ => rfl)
      (kind_is hx hk _ _ _ _ _ (fun M w h => ⟨_, _, _, rfl, places_of h.a rfl (fun i p hp => by rcases i with _ | _ | i <;> simp at hp <;> subst hp <;> rfl)⟩)) (fun w S n c bs E X s' h hn h0 => r_gsa h (by omega) h0)
  · exact parse_known s x0 w hs h0 5 6 6 61 [] (fun f _ s => zdaOf f s) hk (by omega) rfl rfl (by omega) (fun i p hp => by simp at hp) (by simp) (fun _ _ => rfl) (fun _ _ => rfl)
      (kind_is hx hk _ _ _ _ _ (fun M w h => ⟨_, _, _, rfl, places_none w⟩)) (fun w S n c bs E X s' h hn _ => r_zda h (by omega))
  · exact parse_known s x0 w hs h0 6 8 9 62 [] (fun f _ s => vtgOf f s) hk (by omega) rfl rfl (by omega) (fun i p hp => by simp at hp) (by simp) (fun _ _ => rfl) (fun _ _ => rfl)
      (kind_is hx hk _ _ _ _ _ (fun M w h => ⟨_, _, _, rfl, places_none w⟩)) (fun w S n c bs E X s' h hn _ => r_vtg h (by omega))
  · exact parse_known s x0 w hs h0 7 3 20 63 [1, 2, 3] (fun f n s => gsvOf f n s) hk (by omega) rfl rfl (by omega) (fun i p hp => by rcases i with _ | _ | _ | i <;> simp at hp <;> omega) (by simp) (fun _ _ => rfl) (fun _ _ => rfl)
      (kind_is hx hk _ _ _ _ _ (fun M w h => ⟨_, _, _, rfl, places_of h.v rfl (fun i p hp => by rcases i with _ | _ | _ | i <;> simp at hp <;> subst hp <;> rfl)⟩)) (fun w S n c bs E X s' h hn _ => r_gsv h (by omega))
end Go.Proofs.YtlcmjedbdopglaaGreatDoor
