/- The neighbours of a Christoffel word, in both. -/
import Derived.Test.YtmmapfdmdliifabDoorWdH
namespace Go.Proofs.YtmmapfdmdliifabDoor
open Go.RowKit

def IsFac (w : World) (u v : ByteArray) (e : Ending) (w' : World) : Prop := e = .returned (.tuple #[.string u, .string v, .bool true]) ∧ Later w w'
theorem fac_some {w : World} {l : List UInt8} {e : Ending} {w' : World} (h : isTwoW l = true) (hp : PairAns w (facAns l) e w') : IsFac w ⟨(l.take (splitW l)).toArray⟩ ⟨(l.drop (splitW l)).toArray⟩ e w' := by
  rw [facAns_some h] at hp; exact hp
theorem fac_none {w : World} {l : List UInt8} {e : Ending} {w' : World} (h : isTwoW l = false) (hp : PairAns w (facAns l) e w') : e = .returned (.tuple #[.string ⟨#[]⟩, .string ⟨#[]⟩, .bool false]) ∧ Later w w' := by
  rw [facAns_none h] at hp; exact hp
theorem app_eq (u s : ByteArray) (p : List UInt8) (h : u.data.toList = p) : u ++ s = ⟨(p ++ s.data.toList).toArray⟩ := by
  apply ByteArray.ext
  apply Array.toList_inj.1
  rw [ByteArray.data_append, Array.toList_append, h]
theorem app_eq2 (s v : ByteArray) (p : List UInt8) (h : v.data.toList = p) : s ++ v = ⟨(s.data.toList ++ p).toArray⟩ := by
  apply ByteArray.ext
  apply Array.toList_inj.1
  rw [ByteArray.data_append, Array.toList_append, h]
theorem size_app (u s : ByteArray) : (u ++ s).size = u.size + s.size := ByteArray.size_append

set_option maxRecDepth 20000 in
set_option maxHeartbeats 2000000 in
theorem specNeighbourWords_any (s : ByteArray) (w : World) (hs : s.size ≤ 1048576) : Calls Tryd.prog 6 #[.string s] w fun e w' => PairAns w (nextAns s.data.toList) e w' := by
  cases hb : isTwoW s.data.toList
  · have HA := hid (show nextAns s.data.toList = none by unfold nextAns; rw [if_neg (by simp [hb])])
    have HF := hid (fun w => (specFactorsOf_any s w hs).mono fun e w' h => fac_none hb h)
    rw [HA.out]
    clear hb
    go_enter Tryd.func6, Tryd.ntmps6
    go_wp2_with fail
    refine (HF.out _).mono ?_
    rintro e w1 ⟨rfl, hL⟩
    go_wp2_with fail
    go_ret3
    exact ⟨rfl, hL⟩
  · have HF := hid (fun w => (specFactorsOf_any s w hs).mono fun e w' h => fac_some hb h)
    have hlt := two_split hb
    have HA := hid (show nextAns s.data.toList = if s.data.toList.length + splitW s.data.toList ≤ 40 ∧ s.data.toList.length + (s.data.toList.length - splitW s.data.toList) ≤ 40 then some (s.data.toList.take (splitW s.data.toList) ++ s.data.toList, s.data.toList ++ s.data.toList.drop (splitW s.data.toList)) else none by
      unfold nextAns; simp only [hb, true_and])
    rw [← size_list] at hlt HA
    obtain ⟨m, hm⟩ : ∃ m, splitW s.data.toList = m := ⟨_, rfl⟩
    rw [hm] at HF hlt HA
    obtain ⟨u, hu⟩ : ∃ u : ByteArray, (⟨(s.data.toList.take m).toArray⟩ : ByteArray) = u := ⟨_, rfl⟩
    obtain ⟨v, hv⟩ : ∃ v : ByteArray, (⟨(s.data.toList.drop m).toArray⟩ : ByteArray) = v := ⟨_, rfl⟩
    have hul : u.data.toList = s.data.toList.take m := by rw [← hu]
    have hvl : v.data.toList = s.data.toList.drop m := by rw [← hv]
    have hus : u.size = m := by rw [size_list, hul, List.length_take, ← size_list]; omega
    obtain ⟨k, hk⟩ : ∃ k, s.size - m = k := ⟨_, rfl⟩
    have hvs : v.size = k := by rw [size_list, hvl, List.length_drop, ← size_list]; omega
    have HP := hid (app_eq u s _ hul)
    have HQ := hid (app_eq2 s v _ hvl)
    rw [hu, hv] at HF
    rw [hk] at HA
    have hkm : m + k = s.size := by omega
    have HM := hid (fun a b w => l1Most_any a b w)
    have hmx : maxI (m : Int) (k : Int) = if (k : Int) < (m : Int) then (m : Int) else (k : Int) := rfl
    obtain ⟨x, hx⟩ : ∃ x, maxI (m : Int) (k : Int) = x := ⟨_, rfl⟩
    have hx2 : (40 < (s.size : Int) + x) ↔ ¬ (s.size + m ≤ 40 ∧ s.size + k ≤ 40) := by
      rw [← hx, hmx]
      split <;> omega
    have hxb : 0 ≤ x ∧ x ≤ 1048576 := by
      rw [← hx, hmx]
      split <;> omega
    obtain ⟨hx0, hx1⟩ := hxb
    have HX := hid hx
    have hus2 : (u ++ s).size = m + s.size := by rw [size_app, hus]
    have hvs2 : (s ++ v).size = s.size + k := by rw [size_app, hvs]
    have hmm : m ≤ 1048576 := by omega
    have hkk : k ≤ 1048576 := by omega
    clear hb hm hu hv hul hvl hk hmx hx
    by_cases h40 : 40 < (s.size : Int) + x
    · have HN := hid (show nextAns s.data.toList = none by rw [HA.out, if_neg (hx2.1 h40)])
      rw [HN.out]
      clear hx2 hkm hlt
      go_enter Tryd.func6, Tryd.ntmps6
      go_wp2_with fail
      refine (HF.out _).mono ?_
      rintro e w1 ⟨rfl, hL⟩
      have HL1 := hid hL
      clear hL
      go_wp2_with fail
      refine (HM.out _ _ _).mono ?_
      rintro e w2 ⟨rfl, rfl⟩
      rw [HX.out]
      go_wp2_with fail
      go_ret3
      exact ⟨rfl, HL1.out⟩
    · have HN := hid (show nextAns s.data.toList = some (s.data.toList.take m ++ s.data.toList, s.data.toList ++ s.data.toList.drop m) by rw [HA.out, if_pos (Classical.not_not.1 (fun h => h40 (hx2.2 h)))])
      rw [HN.out]
      clear hx2 hkm hlt
      go_enter Tryd.func6, Tryd.ntmps6
      go_wp2_with fail
      refine (HF.out _).mono ?_
      rintro e w1 ⟨rfl, hL⟩
      have HL1 := hid hL
      clear hL
      go_wp2_with fail
      refine (HM.out _ _ _).mono ?_
      rintro e w2 ⟨rfl, rfl⟩
      rw [HX.out]
      go_wp2_with fail
      go_ret3
      refine ⟨?_, HL1.out⟩
      rw [HP.out, HQ.out]
      rfl

set_option maxRecDepth 20000 in
set_option maxHeartbeats 2000000 in
theorem implNeighbourWords_any (s : ByteArray) (w : World) (hs : s.size ≤ 1048576) : Calls Tryd.prog 7 #[.string s] w fun e w' => PairAns w (nextAns s.data.toList) e w' := by
  cases hb : isTwoW s.data.toList
  · have HA := hid (show nextAns s.data.toList = none by unfold nextAns; rw [if_neg (by simp [hb])])
    have HF := hid (fun w => (implFactorsOf_any s w hs).mono fun e w' h => fac_none hb h)
    rw [HA.out]
    clear hb
    go_enter Tryd.func7, Tryd.ntmps7
    go_wp2_with fail
    refine (HF.out _).mono ?_
    rintro e w1 ⟨rfl, hL⟩
    go_wp2_with fail
    go_ret3
    exact ⟨rfl, hL⟩
  · have HF := hid (fun w => (implFactorsOf_any s w hs).mono fun e w' h => fac_some hb h)
    have hlt := two_split hb
    have HA := hid (show nextAns s.data.toList = if s.data.toList.length + splitW s.data.toList ≤ 40 ∧ s.data.toList.length + (s.data.toList.length - splitW s.data.toList) ≤ 40 then some (s.data.toList.take (splitW s.data.toList) ++ s.data.toList, s.data.toList ++ s.data.toList.drop (splitW s.data.toList)) else none by
      unfold nextAns; simp only [hb, true_and])
    have hs40 := letters_le ((isTwoW_iff _).1 hb).1
    rw [← size_list] at hlt HA
    obtain ⟨m, hm⟩ : ∃ m, splitW s.data.toList = m := ⟨_, rfl⟩
    rw [hm] at HF hlt HA
    obtain ⟨u, hu⟩ : ∃ u : ByteArray, (⟨(s.data.toList.take m).toArray⟩ : ByteArray) = u := ⟨_, rfl⟩
    obtain ⟨v, hv⟩ : ∃ v : ByteArray, (⟨(s.data.toList.drop m).toArray⟩ : ByteArray) = v := ⟨_, rfl⟩
    have hul : u.data.toList = s.data.toList.take m := by rw [← hu]
    have hvl : v.data.toList = s.data.toList.drop m := by rw [← hv]
    have hus : u.size = m := by rw [size_list, hul, List.length_take, ← size_list]; omega
    obtain ⟨k, hk⟩ : ∃ k, s.size - m = k := ⟨_, rfl⟩
    have hvs : v.size = k := by rw [size_list, hvl, List.length_drop, ← size_list]; omega
    have HP := hid (app_eq u s _ hul)
    have HQ := hid (app_eq2 s v _ hvl)
    rw [hu, hv] at HF
    rw [hk] at HA
    have hkm : k ≤ 40 := by omega
    have hmm : m ≤ 40 := by omega
    have hus2 : (u ++ s).size = m + s.size := by rw [size_app, hus]
    have hvs2 : (s ++ v).size = s.size + k := by rw [size_app, hvs]
    clear hb hm hu hv hul hvl hk hlt
    by_cases h1 : 40 < (m : Int) + (s.size : Int)
    · have HN := hid (show nextAns s.data.toList = none by rw [HA.out, if_neg (by omega)])
      have hd1 : decide ((40 : Int) < (m : Int) + (s.size : Int)) = true := decide_eq_true h1
      rw [HN.out]
      go_enter Tryd.func7, Tryd.ntmps7
      go_wp2_with fail
      refine (HF.out _).mono ?_
      rintro e w1 ⟨rfl, hL⟩
      have HL1 := hid hL
      clear hL
      go_wp2_with fail
      go_ret3
      exact ⟨rfl, HL1.out⟩
    · have hd1 : decide ((40 : Int) < (m : Int) + (s.size : Int)) = false := decide_eq_false h1
      by_cases h2 : 40 < (s.size : Int) + (k : Int)
      · have HN := hid (show nextAns s.data.toList = none by rw [HA.out, if_neg (by omega)])
        have hd2 : decide ((40 : Int) < (s.size : Int) + (k : Int)) = true := decide_eq_true h2
        rw [HN.out]
        go_enter Tryd.func7, Tryd.ntmps7
        go_wp2_with fail
        refine (HF.out _).mono ?_
        rintro e w1 ⟨rfl, hL⟩
        have HL1 := hid hL
        clear hL
        go_wp2_with fail
        go_ret3
        exact ⟨rfl, HL1.out⟩
      · have hd2 : decide ((40 : Int) < (s.size : Int) + (k : Int)) = false := decide_eq_false h2
        have HN := hid (show nextAns s.data.toList = some (s.data.toList.take m ++ s.data.toList, s.data.toList ++ s.data.toList.drop m) by rw [HA.out, if_pos (by omega)])
        rw [HN.out]
        go_enter Tryd.func7, Tryd.ntmps7
        go_wp2_with fail
        refine (HF.out _).mono ?_
        rintro e w1 ⟨rfl, hL⟩
        have HL1 := hid hL
        clear hL
        go_wp2_with fail
        go_ret3
        refine ⟨?_, HL1.out⟩
        rw [HP.out, HQ.out]
        rfl
end Go.Proofs.YtmmapfdmdliifabDoor
