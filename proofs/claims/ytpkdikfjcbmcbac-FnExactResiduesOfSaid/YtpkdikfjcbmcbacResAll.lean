/- ResiduesOf: LaySortQd, LayCompI, CmpL, Mp, MpK, MpT, MpI, MpJ, MpS, MpU, MpM, MpN, MpQ, MpR, MpO, MpP, MpA, MpB, MpC, MpD, MpE, LawResiduesOf in one text: sets as maps, the search in the program and in the model, the law. -/
import Derived.Test.YtpkdikfjcbmcbacBase
import Derived.Shelf.SlSortCmp.WholeK
import Derived.Shelf.Slices.CompactI
import Derived.Deep.QuietTactic
import Derived.Maps.RangeWalk
import Derived.Maps.OwnSet
import Derived.WideKeyArr2
import Derived.ChangeKeysEq
import Derived.Test.YtpkdikfjcbmcbacQdA
import Derived.Test.YtpkdikfjcbmcbacQdK
import Derived.Sort.MapsRangeIn
import Derived.RangeFuncGives
import Derived.OwnWalkIn
import Derived.TacticsInMore
import Derived.RegionIn
import Derived.LoopNIn
import Derived.LoopIn
import Derived.Shelf.Abstract
import Derived.Maps.AppendAt
import Derived.Shelf.SlSortCmp.NoneTotal
import Derived.Test.YtpkdikfjcbmcbacMkR
import Derived.Test.YtpkdikfjcbmcbacQdB
import Derived.Test.YtpkdikfjcbmcbacLaySort
import Derived.Sort.OwnSortedInts
import Derived.Test.YtpkdikfjcbmcbacQdJ
import Derived.Test.YtpkdikfjcbmcbacHelp
import Derived.Deep.AppendLies
import Derived.Laws.AppendOwnNone
import Derived.Laws.OwnMore
import Derived.Deep.Onto
import Derived.Test.YtpkdikfjcbmcbacQdF
import Derived.Test.YtpkdikfjcbmcbacAns
import Derived.Deep.RegionHeld3
import Derived.Deep.DeepCutAuto
namespace Go.Proofs.Ytpkdikfjcbmcbac

section
open Go.Shelf
def laysSoFQd_ren : Go.Shelf.Ren := ⟨fun | 6 => 57 | 15 => 51 | 14 => 73 | 28 => 69 | 29 => 70 | 20 => 80 | 21 => 81 | 22 => 82 | 23 => 83 | 24 => 84 | 25 => 85 | 26 => 86 | 27 => 87 | 46 => 89 | 47 => 76 | 48 => 77 | 49 => 90 | 50 => 91 | 57 => 92 | n => n, fun | 22 => 50 | 24 => 46 | 25 => 55 | 3 => 3 | 39 => 68 | 0 => 0 | 53 => 84 | 55 => 86 | 4 => 4 | 46 => 77 | 45 => 76 | 50 => 81 | 5 => 5 | 9 => 9 | 66 => 90 | 70 => 94 | 76 => 101 | 77 => 102 | n => n, fun  | n => n⟩
theorem laysSoFQd : SlLaysF0.n6 Try.prog laysSoFQd_ren := {
  mixed := by kernel_rfl,
  f6 := ⟨ "slices.SortFunc[[]loop.example/g01122/impl.quad,loop.example/g01122/impl.quad]", by decide, Try.func57.trans (congrArg some (by kernel_rfl))⟩,
  f14 := ⟨ "slices.pdqsortCmpFunc[loop.example/g01122/impl.quad]", by decide, Try.func73.trans (congrArg some (by kernel_rfl))⟩,
  f15 := Try.func51.trans (congrArg some (by kernel_rfl)),
  f20 := ⟨ "slices.insertionSortCmpFunc[loop.example/g01122/impl.quad]", by decide, Try.func80.trans (congrArg some (by kernel_rfl))⟩,
  f21 := ⟨ "slices.heapSortCmpFunc[loop.example/g01122/impl.quad]", by decide, Try.func81.trans (congrArg some (by kernel_rfl))⟩,
  f22 := ⟨ "slices.breakPatternsCmpFunc[loop.example/g01122/impl.quad]", by decide, Try.func82.trans (congrArg some (by kernel_rfl))⟩,
  f23 := ⟨ "slices.choosePivotCmpFunc[loop.example/g01122/impl.quad]", by decide, Try.func83.trans (congrArg some (by kernel_rfl))⟩,
  f24 := ⟨ "slices.reverseRangeCmpFunc[loop.example/g01122/impl.quad]", by decide, Try.func84.trans (congrArg some (by kernel_rfl))⟩,
  f25 := ⟨ "slices.partialInsertionSortCmpFunc[loop.example/g01122/impl.quad]", by decide, Try.func85.trans (congrArg some (by kernel_rfl))⟩,
  f26 := ⟨ "slices.partitionEqualCmpFunc[loop.example/g01122/impl.quad]", by decide, Try.func86.trans (congrArg some (by kernel_rfl))⟩,
  f27 := ⟨ "slices.partitionCmpFunc[loop.example/g01122/impl.quad]", by decide, Try.func87.trans (congrArg some (by kernel_rfl))⟩,
  f28 := Try.func69.trans (congrArg some (by kernel_rfl)),
  f29 := Try.func70.trans (congrArg some (by kernel_rfl)),
  f46 := ⟨ "slices.siftDownCmpFunc[loop.example/g01122/impl.quad]", by decide, Try.func89.trans (congrArg some (by kernel_rfl))⟩,
  f47 := Try.func76.trans (congrArg some (by kernel_rfl)),
  f48 := Try.func77.trans (congrArg some (by kernel_rfl)),
  f49 := ⟨ "slices.medianAdjacentCmpFunc[loop.example/g01122/impl.quad]", by decide, Try.func90.trans (congrArg some (by kernel_rfl))⟩,
  f50 := ⟨ "slices.medianCmpFunc[loop.example/g01122/impl.quad]", by decide, Try.func91.trans (congrArg some (by kernel_rfl))⟩,
  f57 := ⟨ "slices.order2CmpFunc[loop.example/g01122/impl.quad]", by decide, Try.func92.trans (congrArg some (by kernel_rfl))⟩,
  t0 := Try.underlying0,
  a0 := Try.isAgg0,
  z0 := Try.sizeOf0,
  v0 := Try.zeroValue0,
  t3 := Try.underlying3,
  a3 := Try.isAgg3,
  z3 := Try.sizeOf3,
  v3 := Try.zeroValue3,
  t4 := Try.underlying4,
  a4 := Try.isAgg4,
  z4 := Try.sizeOf4,
  v4 := Try.zeroValue4,
  t5 := Try.underlying5,
  a5 := Try.isAgg5,
  z5 := Try.sizeOf5,
  v5 := Try.zeroValue5,
  t9 := Try.underlying9,
  a9 := Try.isAgg9,
  z9 := Try.sizeOf9,
  v9 := Try.zeroValue9,
  t22 := Try.underlying50,
  a22 := Try.isAgg50,
  z22 := Try.sizeOf50,
  v22 := Try.zeroValue50,
  t25 := Try.underlying55,
  a25 := Try.isAgg55,
  z25 := Try.sizeOf55,
  v25 := Try.zeroValue55,
  t39 := Try.underlying68,
  a39 := Try.isAgg68,
  z39 := Try.sizeOf68,
  v39 := Try.zeroValue68,
  t45 := Try.underlying76,
  a45 := Try.isAgg76,
  z45 := Try.sizeOf76,
  v45 := Try.zeroValue76,
  t46 := Try.underlying77,
  a46 := Try.isAgg77,
  z46 := Try.sizeOf77,
  v46 := Try.zeroValue77,
  t50 := Try.underlying81,
  a50 := Try.isAgg81,
  z50 := Try.sizeOf81,
  v50 := Try.zeroValue81,
  t53 := Try.underlying84,
  a53 := Try.isAgg84,
  z53 := Try.sizeOf84,
  v53 := Try.zeroValue84,
  t55 := Try.underlying86,
  a55 := Try.isAgg86,
  z55 := Try.sizeOf86,
  v55 := Try.zeroValue86,
  t66 := Try.underlying90,
  a66 := Try.isAgg90,
  z66 := Try.sizeOf90,
  v66 := Try.zeroValue90,
  t70 := Try.underlying94,
  a70 := Try.isAgg94,
  z70 := Try.sizeOf94,
  v70 := Try.zeroValue94,
  t76 := Try.underlying101,
  a76 := Try.isAgg101,
  z76 := Try.sizeOf101,
  v76 := Try.zeroValue101,
  t77 := Try.underlying102,
  a77 := Try.isAgg102,
  z77 := Try.sizeOf102,
  v77 := Try.zeroValue102 }
end

section
open Go.Shelf
def laysCompI_ren : Go.Shelf.Ren := ⟨fun | 20 => 35 | n => n, fun | 22 => 29 | 3 => 3 | 4 => 4 | 0 => 0 | n => n, fun  | n => n⟩
theorem laysCompI : Lays2.n20 Try.prog laysCompI_ren := {
  mixed := by kernel_rfl,
  f20 := Try.func35.trans (congrArg some (by kernel_rfl)),
  t0 := Try.underlying0,
  a0 := Try.isAgg0,
  z0 := Try.sizeOf0,
  v0 := Try.zeroValue0,
  t3 := Try.underlying3,
  a3 := Try.isAgg3,
  z3 := Try.sizeOf3,
  v3 := Try.zeroValue3,
  t4 := Try.underlying4,
  a4 := Try.isAgg4,
  z4 := Try.sizeOf4,
  v4 := Try.zeroValue4,
  t22 := Try.underlying29,
  a22 := Try.isAgg29,
  z22 := Try.sizeOf29,
  v22 := Try.zeroValue29,
  i3 := by kernel_rfl }
end

section
open Go.RowKit

def cmpI (x y : Int) : Int := if x < y then -1 else if y < x then 1 else 0
def cmpLL : List Int → List Int → Int
  | [], [] => 0
  | [], _ :: _ => -1
  | _ :: _, [] => 1
  | x :: xs, y :: ys => if cmpI x y = 0 then cmpLL xs ys else cmpI x y
theorem cmpLL_drop {xs ys : List Int} {k : Nat} (h1 : k < xs.length) (h2 : k < ys.length) :
    cmpLL (xs.drop k) (ys.drop k) = if cmpI (xs.getD k 0) (ys.getD k 0) = 0 then cmpLL (xs.drop (k + 1)) (ys.drop (k + 1)) else cmpI (xs.getD k 0) (ys.getD k 0) := by
  rw [List.drop_eq_getElem_cons h1, List.drop_eq_getElem_cons h2]
  simp only [cmpLL, List.getD_eq_getElem?_getD, List.getElem?_eq_getElem h1, List.getElem?_eq_getElem h2, Option.getD_some]
theorem isNaNC_any (x : Int) (w : World) : Calls Try.prog 74 #[.int .i64 x] w fun e w' => e = .returned (.bool false) ∧ w = w' := by
  go_enter Try.func74, Try.ntmps74
  go_wp2_with fail
  go_ret
  exact ⟨by simp, rfl⟩
theorem cmpInt_any (x y : Int) (w : World) : Calls Try.prog 59 #[.int .i64 x, .int .i64 y] w fun e w' => e = .returned (.int .i64 (cmpI x y)) ∧ w = w' := by
  by_cases h1 : x < y
  · have HE := hid (show cmpI x y = -1 by unfold cmpI; rw [if_pos h1])
    rw [HE.out]
    go_enter Try.func59, Try.ntmps59
    go_wp2_with (go_at_call 74; refine (isNaNC_any _ _).mono ?_; rintro e w2 ⟨rfl, rfl⟩)
    go_ret
    exact ⟨rfl, rfl⟩
  · by_cases h2 : y < x
    · have HE := hid (show cmpI x y = 1 by unfold cmpI; rw [if_neg h1, if_pos h2])
      rw [HE.out]
      go_enter Try.func59, Try.ntmps59
      go_wp2_with (go_at_call 74; refine (isNaNC_any _ _).mono ?_; rintro e w2 ⟨rfl, rfl⟩)
      go_ret
      exact ⟨rfl, rfl⟩
    · have HE := hid (show cmpI x y = 0 by unfold cmpI; rw [if_neg h1, if_neg h2])
      rw [HE.out]
      go_enter Try.func59, Try.ntmps59
      go_wp2_with (go_at_call 74; refine (isNaNC_any _ _).mono ?_; rintro e w2 ⟨rfl, rfl⟩)
      go_ret
      exact ⟨rfl, rfl⟩

set_option maxRecDepth 20000 in
set_option maxHeartbeats 2000000 in
theorem compareL_any (v u : Value) (xs ys : List Int) (n : Nat) (w : World) (hx : xs.length = n) (hy : ys.length = n) (h1 : Ints w v xs) (h2 : Ints w u ys) :
    Calls Try.prog 49 #[v, u] w fun e w' => e = .returned (.int .i64 (cmpLL xs ys)) ∧ w = w' := by
  obtain ⟨a, ca, rfl, hl, hc⟩ := h1
  obtain ⟨b, cb, rfl, _, hd⟩ := h2
  have HC := hid hc
  have HD := hid hd
  have HDR := hid (fun k (h : k < n) => cmpLL_drop (xs := xs) (ys := ys) (k := k) (by omega) (by omega))
  have HZ := hid (show cmpLL (xs.drop n) (ys.drop n) = 0 by rw [List.drop_of_length_le (by omega), List.drop_of_length_le (by omega)]; rfl)
  obtain ⟨o, ho⟩ : ∃ o, cmpLL xs ys = o := ⟨_, rfl⟩
  rw [ho]
  have HO0 := hid (show cmpLL (xs.drop 0) (ys.drop 0) = o from ho)
  rw [hx] at hl HC ⊢
  rw [hy] at HD ⊢
  clear hc hd ho hx hy
  go_enter Try.func49, Try.ntmps49
  go_wp2_with fail
  go_loop [11] (fun i => ∃ k : Nat, k ≤ n ∧ i = .int .i64 k ∧ cmpLL (xs.drop k) (ys.drop k) = o) (fun i => n - (intOf i).toNat)
  case atStart => exact ⟨0, Nat.zero_le _, rfl, HO0.out⟩
  case round =>
    obtain ⟨k, hk, rfl, hpre⟩ := hrel
    have HP := hid hpre
    clear hpre
    by_cases hlt : k < n
    · have hltI : (k : Int) < (n : Int) := by omega
      obtain ⟨ad, rfl, hcell⟩ := HC.out k hlt
      obtain ⟨bd, rfl, hdell⟩ := HD.out k hlt
      have HK := hid (HDR.out k hlt)
      rw [HP.out] at HK
      obtain ⟨x, hx⟩ : ∃ x, xs.getD k 0 = x := ⟨_, rfl⟩
      obtain ⟨y, hy⟩ : ∃ y, ys.getD k 0 = y := ⟨_, rfl⟩
      rw [hx] at hcell HK
      rw [hy] at hdell HK
      clear hx hy
      obtain ⟨c, hcc⟩ : ∃ c, cmpI x y = c := ⟨_, rfl⟩
      have HCI := hid (fun w' => show Calls Try.prog 59 #[.int .i64 x, .int .i64 y] w' fun e w2 => e = .returned (.int .i64 c) ∧ w' = w2 by rw [← hcc]; exact cmpInt_any x y w')
      rw [hcc] at HK
      clear hcc
      by_cases h0 : c = 0
      · have HN := hid (HK.out.trans (if_pos h0)).symm
        have hne : (c != 0) = false := by simp [h0]
        clear h0
        go_wp2_with (go_at_call 59; refine (HCI.out _).mono ?_; rintro e w2 ⟨rfl, rfl⟩)
        go_round
        case rel => exact ⟨k + 1, hlt, by go_num, HN.out⟩
        case measure => simp [intOf]; omega
      · have HN := hid (HK.out.trans (if_neg h0)).symm
        have hne : (c != 0) = true := by simp [h0]
        clear h0
        go_wp2_with (go_at_call 59; refine (HCI.out _).mono ?_; rintro e w2 ⟨rfl, rfl⟩)
        go_ret
        exact ⟨ret_int HN.out, rfl⟩
    · obtain rfl : k = n := by omega
      have HN := hid (HP.out.symm.trans HZ.out)
      go_wp2_with fail
      go_ret
      exact ⟨ret_int HN.out.symm, rfl⟩
end

section
open Go.RowKit Go.Maps

/-- An array of numbers as a value. -/
def aggZ (zs : List Int) : Value := .agg (zs.map (Value.int .i64)).toArray
theorem aggZ_inj {xs ys : List Int} (h : aggZ xs = aggZ ys) : xs = ys := by
  unfold aggZ at h
  injection h with h
  have h2 := congrArg Array.toList h
  simp only at h2
  induction xs generalizing ys with
  | nil => cases ys with
    | nil => rfl
    | cons y ys => cases h2
  | cons x xs ih => cases ys with
    | nil => cases h2
    | cons y ys =>
      simp only [List.map_cons, List.cons.injEq, Value.int.injEq, true_and] at h2
      rw [h2.1, ih (congrArg List.toArray h2.2) h2.2]
def goodZ (m : Nat) (zs : List Int) : Prop := zs.length = m ∧ ∀ z ∈ zs, (Lit.int .i64 z).wf = true
/-- The key's type: arrays of m numbers. -/
structure KeyZ (P : Program) (K : TypeId) (m : Nat) : Prop where
  law : Keyed P K
  read : ∀ zs, goodZ m zs → ∃ kl, keyOf P K (aggZ zs) = some kl
  inv : ∀ key kl, keyOf P K key = some kl → ∃ zs, goodZ m zs ∧ key = aggZ zs
def litZ (P : Program) (K : TypeId) (zs : List Int) : Lit := (keyOf P K (aggZ zs)).getD (.bool false)
section
variable {P : Program} {K T E : TypeId} {m B r cnt : Nat} {L todo : List (List Int)} {D : DataW Unit}
theorem KeyZ.key (h : KeyZ P K m) {zs : List Int} (hz : goodZ m zs) : keyOf P K (aggZ zs) = some (litZ P K zs) := by
  obtain ⟨kl, e⟩ := h.read zs hz
  unfold litZ
  rw [e]; rfl
theorem KeyZ.isKey (h : KeyZ P K m) {zs : List Int} (hz : goodZ m zs) : WideAt.IsKeyLit (litZ P K zs) := h.law.key (h.key hz)
theorem KeyZ.inj (h : KeyZ P K m) {xs ys : List Int} (hx : goodZ m xs) (hy : goodZ m ys) (e : litZ P K xs = litZ P K ys) : xs = ys := by
  have h1 := h.key hx
  rw [e] at h1
  exact aggZ_inj (h.law.inj h1 (h.key hy))

/-- The datum D is the set whose members are L's. -/
structure SetIs (P : Program) (K : TypeId) (m : Nat) (L : List (List Int)) (D : DataW Unit) : Prop where
  tidy : Tidy D
  good : ∀ zs ∈ L, goodZ m zs
  nodup : L.Nodup
  has : ∀ kl, has D kl = true ↔ ∃ zs ∈ L, kl = litZ P K zs
  size : size D = L.length
  val : ∀ zs ∈ L, ∀ z, D.atKey (litZ P K zs) z = .lit (.bool true)
theorem SetIs.empty (P : Program) (K : TypeId) (m : Nat) : SetIs P K m [] (.map []) :=
  ⟨tidy_empty, by simp, List.nodup_nil, fun kl => by simp [Maps.has], rfl, by simp⟩
theorem SetIs.hasZ (h : SetIs P K m L D) (hk : KeyZ P K m) {zs : List Int} (hz : goodZ m zs) : Maps.has D (litZ P K zs) = decide (zs ∈ L) := by
  rw [Bool.eq_iff_iff, h.has, decide_eq_true_iff]
  constructor
  · rintro ⟨ys, hy, e⟩
    rw [hk.inj hz (h.good ys hy) e]; exact hy
  · exact fun hm => ⟨zs, hm, rfl⟩
theorem SetIs.atZ (h : SetIs P K m L D) (hk : KeyZ P K m) {zs : List Int} (hz : goodZ m zs) : D.atKey (litZ P K zs) (.lit (.bool false)) = .lit (.bool (decide (zs ∈ L))) := by
  by_cases hm : zs ∈ L
  · rw [h.val zs hm, decide_eq_true hm]
  · have h1 := h.hasZ hk hz
    rw [decide_eq_false hm] at h1
    rw [atKey_of_not_has h1, decide_eq_false hm]
def setPut (L : List (List Int)) (zs : List Int) : List (List Int) := if zs ∈ L then L else L ++ [zs]
theorem mem_setPut {L : List (List Int)} {zs ys : List Int} : ys ∈ setPut L zs ↔ ys ∈ L ∨ ys = zs := by
  unfold setPut
  split
  · rename_i h
    constructor
    · exact Or.inl
    · rintro (h1 | rfl)
      · exact h1
      · exact h
  · simp
theorem setPut_length (L : List (List Int)) (zs : List Int) : (setPut L zs).length ≤ L.length + 1 := by
  unfold setPut
  split
  · omega
  · simp
theorem SetIs.put (h : SetIs P K m L D) (hk : KeyZ P K m) {zs : List Int} (hz : goodZ m zs) : SetIs P K m (setPut L zs) (D.put (litZ P K zs) (.lit (.bool true))) := by
  have hkl := hk.isKey hz
  refine ⟨h.tidy.put hkl _, fun ys hy => ?_, ?_, fun kl => ?_, ?_, fun ys hy z => ?_⟩
  · rcases mem_setPut.1 hy with h1 | rfl
    · exact h.good ys h1
    · exact hz
  · unfold setPut
    split
    · exact h.nodup
    · rename_i hn
      rw [List.nodup_append]
      refine ⟨h.nodup, by simp, fun a ha b hb => ?_⟩
      rw [List.mem_singleton] at hb
      rw [hb]
      rintro rfl
      exact hn ha
  · by_cases e : kl = litZ P K zs
    · subst e
      rw [has_put_same h.tidy.isMap hkl]
      exact ⟨fun _ => ⟨zs, mem_setPut.2 (Or.inr rfl), rfl⟩, fun _ => rfl⟩
    · rw [has_put_other e, h.has]
      constructor
      · rintro ⟨ys, hy, e2⟩
        exact ⟨ys, mem_setPut.2 (Or.inl hy), e2⟩
      · rintro ⟨ys, hy, e2⟩
        rcases mem_setPut.1 hy with h1 | rfl
        · exact ⟨ys, h1, e2⟩
        · exact absurd e2 e
  · rw [size_put h.tidy, h.hasZ hk hz, h.size]
    unfold setPut
    by_cases hm : zs ∈ L
    · rw [if_pos (decide_eq_true hm), if_pos hm]
    · rw [if_neg (by simp [hm]), if_neg hm]; simp
  · rcases mem_setPut.1 hy with h1 | rfl
    · by_cases e : litZ P K ys = litZ P K zs
      · rw [e, atKey_put_same h.tidy.isMap hkl]
      · rw [atKey_put_other e, h.val ys h1]
    · rw [atKey_put_same h.tidy.isMap hkl]
theorem SetIs.del (h : SetIs P K m L D) (hk : KeyZ P K m) {zs : List Int} (hz : zs ∈ L) : SetIs P K m (L.erase zs) (D.del (litZ P K zs)) := by
  have hg := h.good zs hz
  have hme : ∀ ys, ys ∈ L.erase zs ↔ ys ≠ zs ∧ ys ∈ L := fun ys => h.nodup.mem_erase_iff
  refine ⟨h.tidy.del _, fun ys hy => h.good ys ((hme ys).1 hy).2, h.nodup.erase _, fun kl => ?_, ?_, fun ys hy z => ?_⟩
  · by_cases e : kl = litZ P K zs
    · subst e
      rw [has_del_same]
      refine ⟨fun h => (by cases h), ?_⟩
      rintro ⟨ys, hy, e2⟩
      exact absurd (hk.inj hg (h.good ys ((hme ys).1 hy).2) e2).symm ((hme ys).1 hy).1
    · rw [has_del_other e, h.has]
      constructor
      · rintro ⟨ys, hy, e2⟩
        exact ⟨ys, (hme ys).2 ⟨fun e3 => e (by rw [e2, e3]), hy⟩, e2⟩
      · rintro ⟨ys, hy, e2⟩
        exact ⟨ys, ((hme ys).1 hy).2, e2⟩
  · have h1 := size_del (k := litZ P K zs) h.tidy
    rw [h.hasZ hk hg, decide_eq_true hz, h.size] at h1
    rw [List.length_erase_of_mem hz]
    simp only [if_true] at h1
    omega
  · have h2 := (hme ys).1 hy
    rw [atKey_del_other (fun e => h2.1 (hk.inj (h.good ys h2.2) hg e)), h.val ys h2.2]

/-- Block B is a map that holds the set L. -/
def OwnSet (P : Program) (K E : TypeId) (m : Nat) (w : World) (B : Nat) (L : List (List Int)) : Prop :=
  ∃ D : DataW Unit, w.ownsMap P K (plainElem P E) B L.length D ∧ SetIs P K m L D
theorem tight {w : World} {R : Value → Option (DataW Unit × List MemPlace)} {b n : Nat} {D : DataW Unit} (h : w.ownsMap P K R b n D) {k : Nat} (hs : Maps.size D = k) : w.ownsMap P K R b k D := by
  obtain ⟨es, clock, hb, F, _, hD⟩ := h
  refine ⟨es, clock, hb, F, ?_, hD⟩
  have e1 : Maps.size D = es.size := by rw [hD]; simp [Maps.size, length_sorted]
  omega
theorem OwnSet.made (P : Program) (K E : TypeId) (m : Nat) (w : World) : OwnSet P K E m (w.alloc (.map #[] 0)) w.heap.size [] :=
  ⟨.map [], World.ownsMap_made w P K _, SetIs.empty P K m⟩
theorem OwnSet.lt {w : World} (h : OwnSet P K E m w B L) : B < w.heap.size := by
  obtain ⟨D, h1, _⟩ := h; exact h1.lt
theorem OwnSet.kept {w w' : World} {row : Option Nat} (h : OwnSet P K E m w B L) (hg : w.grownBy w' row) (hne : some B ≠ row) : OwnSet P K E m w' B L := by
  obtain ⟨D, h1, h2⟩ := h; exact ⟨D, h1.kept hg hne, h2⟩
theorem OwnSet.good {w : World} (h : OwnSet P K E m w B L) : ∀ zs ∈ L, goodZ m zs := by
  obtain ⟨D, _, h2⟩ := h; exact h2.good
theorem OwnSet.nodup {w : World} (h : OwnSet P K E m w B L) : L.Nodup := by
  obtain ⟨D, _, h2⟩ := h; exact h2.nodup
/-- How many entries block B has: for a loop's measure. -/
def setSize (w : World) (B : Nat) : Nat := match w.heap[B]? with | some (.map es _) => es.size | _ => 0
theorem OwnSet.size_eq {w : World} (h : OwnSet P K E m w B L) : setSize w B = L.length := by
  obtain ⟨D, ⟨es, clock, hb, F, _, hD⟩, h2⟩ := h
  have e1 : Maps.size D = es.size := by rw [hD]; simp [Maps.size, length_sorted]
  unfold setSize
  rw [hb]
  simp only
  rw [← e1, h2.size]

variable (w : World) {ops : Array Oper} {rest : List Oper} {o : Oper} {a : Act} {Q : Exit → Act → World → Prop}
theorem plainElem_bool_inv {H : Type} {P : Program} {e : TypeId} (he : P.underlying e = some .bool) {v : Value} {z : DataW H × List MemPlace} (h : plainElem P e v = some z) : ∃ x, v = .bool x ∧ z = (.lit (.bool x), []) := by
  unfold plainElem at h
  rw [he] at h
  cases v <;> simp at h
  exact ⟨_, rfl, h.symm⟩
/-- 'm[k]' -/
theorem wpList_look_set (hg : o.guard = none) (mm x : Operand) (t : TypeId) (hop : o.op = Op.lookup t mm x false) (hk : KeyZ P K m) (ht : P.underlying t = some (.map K E)) (he : P.underlying E = some .bool) (hz0 : (zeroValue E).run P w = .ok (.bool false) w)
    (B : Nat) (L : List (List Int)) (hm : a.eval mm = .map (some B)) (hown : OwnSet P K E m w B L) (zs : List Int) (hx : a.eval x = aggZ zs) (hz : goodZ m zs)
    (hK : wpList P ops Q rest (a.put o.dst (.bool (decide (zs ∈ L)))) w) : wpList P ops Q (o :: rest) a w := by
  obtain ⟨D, h1, h2⟩ := hown
  refine wpList_plain hg fun K' hK' => ?_
  obtain ⟨v, ps, hrun, hv⟩ := h1.lookup hk.law ht hz0 (plainElem_bool he false) (hk.key hz)
  rw [h2.atZ hk hz] at hv
  obtain ⟨b, rfl, e⟩ := plainElem_bool_inv he hv
  have eb : decide (zs ∈ L) = b := by
    have := congrArg Prod.fst e
    simpa using this
  rw [eb] at hK
  unfold Oper.wp
  simp [execOp, hop, hm, hx, hrun, Result.andThen]
  exact hK' _ _ hK
/-- 'm[k] = true' -/
theorem wpList_put_set (hg : o.guard = none) (mm x v : Operand) (t : TypeId) (hop : o.op = Op.mapUpdate t mm x v ∨ o.op = Op.insert t mm x v) (hk : KeyZ P K m) (ht : P.underlying t = some (.map K E)) (he : P.underlying E = some .bool)
    (B : Nat) (L : List (List Int)) (hm : a.eval mm = .map (some B)) (hown : OwnSet P K E m w B L) (hn : L.length < maxLen) (zs : List Int) (hx : a.eval x = aggZ zs) (hv : a.eval v = .bool true) (hz : goodZ m zs)
    (hK : ∀ w', OwnSet P K E m w' B (setPut L zs) → w.mapTurned w' B → wpList P ops Q rest (a.put o.dst undef) w') : wpList P ops Q (o :: rest) a w := by
  obtain ⟨D, h1, h2⟩ := hown
  refine wpList_plain hg fun K' hK' => ?_
  obtain ⟨w', hrun, r1, r2⟩ := h1.store hk.law ht hn (hk.key hz) (plainElem_bool he true)
  have h3 := h2.put hk hz
  have hK2 := hK w' ⟨_, tight r1 h3.size, h3⟩ r2
  unfold Oper.wp
  rcases hop with hop | hop
  · simp [execOp, hop, hm, hx, hv, hrun, Result.andThen]
    exact hK' _ _ hK2
  · simp [execOp, hop, hm, hx, hv, hrun, Result.andThen]
    exact hK' _ _ hK2
/-- 'delete(m, k)' of a member -/
theorem wpList_del_set (hg : o.guard = none) (mm x : Operand) (t k' : TypeId) (hop : o.op = Op.call { callee := Callee.builtin Builtin.delete, args := #[mm, x], argTypes := #[t, k'] }) (hkk : k' = K) (hk : KeyZ P K m) (ht : P.underlying t = some (.map K E))
    (B : Nat) (L : List (List Int)) (hm : a.eval mm = .map (some B)) (hown : OwnSet P K E m w B L) (zs : List Int) (hx : a.eval x = aggZ zs) (hz : zs ∈ L)
    (hK : ∀ w', OwnSet P K E m w' B (L.erase zs) → w.mapTurned w' B → wpList P ops Q rest (a.put o.dst (.tuple #[])) w') : wpList P ops Q (o :: rest) a w := by
  subst hkk
  obtain ⟨D, h1, h2⟩ := hown
  refine wpList_delete_own w hg mm x t k' hop E hk.law ht _ B _ D hm h1 _ _ hx (hk.key (h2.good zs hz)) fun w' r1 r2 => ?_
  have h3 := h2.del hk hz
  exact hK w' ⟨_, tight r1 h3.size, h3⟩ r2
/-- 'len(m)' -/
theorem wpList_len_set (hg : o.guard = none) (mm : Operand) (t : TypeId) (hop : o.op = Op.call { callee := Callee.builtin Builtin.len, args := #[mm], argTypes := #[t] }) (ht : P.underlying t = some (.map K E))
    (B : Nat) (L : List (List Int)) (hm : a.eval mm = .map (some B)) (hown : OwnSet P K E m w B L)
    (hK : wpList P ops Q rest (a.put o.dst (.int .i64 (L.length : Nat))) w) : wpList P ops Q (o :: rest) a w := by
  obtain ⟨D, h1, h2⟩ := hown
  refine wpList_len_own w hg mm t hop K E ht _ B _ D hm h1 ?_
  rw [h2.size]; exact hK
/-- 'range m' under way: todo holds those that are still to come. -/
def RangeSet (P : Program) (K E : TypeId) (m : Nat) (w : World) (B r : Nat) (L todo : List (List Int)) (cnt : Nat) : Prop :=
  ∃ (D : DataW Unit) (left : Lit → Bool), w.ranges P K (plainElem P E) B r L.length D left cnt ∧ SetIs P K m L D ∧ todo.Nodup ∧ (∀ zs ∈ todo, zs ∈ L) ∧ ∀ kl, left kl = true ↔ ∃ zs ∈ todo, kl = litZ P K zs
theorem RangeSet.owns {w : World} (h : RangeSet P K E m w B r L todo cnt) : OwnSet P K E m w B L := by
  obtain ⟨D, left, h1, h2, _⟩ := h; exact ⟨D, h1.owns, h2⟩
theorem RangeSet.left_eq {w : World} (h : RangeSet P K E m w B r L todo cnt) : w.rangeLeft B r = cnt := by
  obtain ⟨D, left, h1, _⟩ := h; exact h1.left_eq
theorem RangeSet.ne {w : World} (h : RangeSet P K E m w B r L todo cnt) : r ≠ B := by
  obtain ⟨D, left, h1, _⟩ := h; exact h1.ne
theorem RangeSet.lt {w : World} (h : RangeSet P K E m w B r L todo cnt) : r < w.heap.size := by
  obtain ⟨D, left, h1, _⟩ := h; exact h1.lt
theorem RangeSet.kept {w w' : World} {row : Option Nat} (h : RangeSet P K E m w B r L todo cnt) (hg : w.grownBy w' row) (hb : some B ≠ row) (hr : some r ≠ row) : RangeSet P K E m w' B r L todo cnt := by
  obtain ⟨D, left, h1, h2⟩ := h; exact ⟨D, left, h1.kept hg hb hr, h2⟩
theorem wpList_range_set (hg : o.guard = none) (mm : Operand) (t : TypeId) (hop : o.op = Op.range t mm) (hk : KeyZ P K m) (ht : P.underlying t = some (.map K E)) (B : Nat) (L : List (List Int))
    (hm : a.eval mm = .map (some B)) (hown : OwnSet P K E m w B L)
    (hK : ∀ w', RangeSet P K E m w' B w.heap.size L L L.length → w.grownBy w' none → w'.heap.size = w.heap.size + 1 → wpList P ops Q rest (a.put o.dst (.pointer (some ⟨w.heap.size, 0, none⟩))) w') : wpList P ops Q (o :: rest) a w := by
  obtain ⟨D, h1, h2⟩ := hown
  refine wpList_range_own w hg mm t hop K E hk.law ht _ B _ D hm h1 fun w' r1 r2 r3 => hK w' ⟨D, _, ?_, h2, h2.nodup, fun _ h => h, h2.has⟩ r2 r3
  rw [h2.size] at r1
  exact r1
theorem wpList_next_set (hg : o.guard = none) (it : Operand) (hop : o.op = Op.next it false) (hk : KeyZ P K m) (he : P.underlying E = some .bool) (B r : Nat) (L todo : List (List Int)) (cnt : Nat)
    (hit : a.eval it = .pointer (some ⟨r, 0, none⟩)) (h : RangeSet P K E m w B r L todo cnt)
    (hDone : todo = [] → wpList P ops Q rest (a.put o.dst (.tuple #[.bool false])) w)
    (hMore : ∀ (zs : List Int) (w' : World) (cnt' : Nat), zs ∈ todo → RangeSet P K E m w' B r L (todo.erase zs) cnt' → cnt' < cnt → w.grownBy w' (some r) → w'.heap.size = w.heap.size →
      (Instr.entry (.pointer (some ⟨r, 0, none⟩))).run P w' = .ok (.tuple #[aggZ zs, .bool true]) w' → wpList P ops Q rest (a.put o.dst (.tuple #[.bool true, aggZ zs, .bool true])) w') : wpList P ops Q (o :: rest) a w := by
  obtain ⟨D, left, h1, h2, h3, h4, h5⟩ := h
  refine wpList_next_ranges w hg it hop K hk.law (plainElem P E) aggZ Value.bool (fun key kl hkey => ?_) (fun v y hv => ?_) B r _ D left cnt hit h1 (fun _ hl => hDone ?_) (fun zs c kl y w' cnt' hkey hlk hv hat hrg hlt hgr hsz hen => ?_)
  · obtain ⟨zs, _, e⟩ := hk.inv key kl hkey
    exact ⟨zs, e⟩
  · obtain ⟨x, e, _⟩ := plainElem_bool_inv he hv
    exact ⟨x, e⟩
  · cases todo with
    | nil => rfl
    | cons x xs =>
      have := (h5 (litZ P K x)).2 ⟨x, by simp, rfl⟩
      rw [hl] at this
      cases this
  · obtain ⟨ys, hy, e⟩ := (h5 kl).1 hlk
    have hgy := h2.good ys (h4 ys hy)
    have hzy : zs = ys := by
      refine aggZ_inj (hk.law.inj hkey ?_)
      rw [e]; exact hk.key hgy
    subst hzy
    have hc : c = true := by
      obtain ⟨c', e1, e2⟩ := plainElem_bool_inv he hv
      have h6 := h2.val zs (h4 zs hy) (.lit (.bool false))
      rw [← e, hat, e2] at h6
      cases e1
      simpa using h6
    subst hc
    refine hMore zs w' cnt' hy ⟨D, _, hrg, h2, h3.erase _, fun xs hx => h4 xs (List.mem_of_mem_erase hx), fun kl' => ?_⟩ hlt hgr hsz hen
    simp only [Bool.and_eq_true, Bool.not_eq_true']
    rw [h5]
    constructor
    · rintro ⟨⟨xs, hx, e2⟩, hne⟩
      refine ⟨xs, h3.mem_erase_iff.2 ⟨fun e3 => ?_, hx⟩, e2⟩
      rw [e2, e3, e, WideAt.sameKey_self (hk.isKey hgy)] at hne
      cases hne
    · rintro ⟨xs, hx, e2⟩
      obtain ⟨hne, hx2⟩ := h3.mem_erase_iff.1 hx
      refine ⟨⟨xs, hx2, e2⟩, sameKey_ne fun e3 => hne ?_⟩
      rw [e2, e] at e3
      exact hk.inj (h2.good xs (h4 xs hx2)) hgy e3
end
end

section
open Go.RowKit Go.Maps Go.WideMaps

theorem keyLits_int1 {P : Program} {t : TypeId} {q : IntKind} {D : Nat} {c : Value} {l : List Lit} (hu : P.underlying t = some (.int q)) (h : P.keyLits D t [c] = some l) : ∃ n, c = .int q n ∧ (Lit.int q n).wf = true := by
  cases D with
  | zero => simp [Program.keyLits] at h
  | succ D =>
    unfold Program.keyLits at h
    rw [hu] at h
    cases c <;> simp at h
    obtain ⟨⟨rfl, hw⟩, _⟩ := h
    exact ⟨_, rfl, hw⟩
theorem keyZ4 {P : Program} {k e : TypeId} (A : ArrKey P k e 4) (he : P.underlying e = some (.int .i64)) (hsz : ∃ m, P.types.size = m + 1) : KeyZ P k 4 where
  law := Keyed.of_law A.law
  read zs hz := by
    obtain ⟨hl, hw⟩ := hz
    match zs, hl with
    | [a, b, c, d], _ =>
      have hkt := A.keyType hsz
      obtain ⟨m, hm⟩ := hsz
      refine ⟨.string (keyBytes [.int .i64 a, .int .i64 b, .int .i64 c, .int .i64 d]), ?_⟩
      unfold keyOf
      simp only [A.hu]
      rw [if_pos (by simp [aggZ, hkt, Value.formed, A.hu, A.size]), hm]
      unfold Program.keyLits
      simp only [A.hu, Value.cells, aggZ]
      rw [if_pos (by rw [A.size]; rfl), show List.range 4 = [0, 1, 2, 3] from rfl, List.mapM_cons, List.mapM_cons, List.mapM_cons, List.mapM_cons, List.mapM_nil]
      simp [A.one, Program.keyLits, he, hw a (by simp), hw b (by simp), hw c (by simp), hw d (by simp)]
  inv key kl h := by
    unfold keyOf at h
    simp only [A.hu] at h
    split at h
    · rename_i hf
      rw [Bool.and_eq_true] at hf
      have hf2 := hf.2
      cases key <;> simp [Value.formed, A.hu] at hf2
      rename_i cs
      rw [A.size] at hf2
      obtain ⟨l⟩ := cs
      match l, hf2 with
      | [c0, c1, c2, c3], _ =>
        simp only [Option.map_eq_some_iff] at h
        obtain ⟨ls, h1, _⟩ := h
        unfold Program.keyLits at h1
        simp only [A.hu, Value.cells] at h1
        rw [if_pos (by rw [A.size]; rfl), show List.range 4 = [0, 1, 2, 3] from rfl, List.mapM_cons, List.mapM_cons, List.mapM_cons, List.mapM_cons, List.mapM_nil] at h1
        simp only [Option.map_eq_some_iff, bind, Option.bind_eq_some_iff, A.one] at h1
        obtain ⟨_, ⟨x0, e0, _, ⟨x1, e1, _, ⟨x2, e2, _, ⟨x3, e3, _⟩, _⟩, _⟩, _⟩, _⟩ := h1
        obtain ⟨a, rfl, wa⟩ := keyLits_int1 he e0
        obtain ⟨b, rfl, wb⟩ := keyLits_int1 he e1
        obtain ⟨c, rfl, wc⟩ := keyLits_int1 he e2
        obtain ⟨d, rfl, wd⟩ := keyLits_int1 he e3
        exact ⟨[a, b, c, d], ⟨rfl, by simp [wa, wb, wc, wd]⟩, rfl⟩
    · cases h
theorem keyZ3 {P : Program} {k e : TypeId} (A : ArrKey P k e 3) (he : P.underlying e = some (.int .i64)) (hsz : ∃ m, P.types.size = m + 1) : KeyZ P k 3 where
  law := Keyed.of_law A.law
  read zs hz := by
    obtain ⟨hl, hw⟩ := hz
    match zs, hl with
    | [a, b, c], _ =>
      have hkt := A.keyType hsz
      obtain ⟨m, hm⟩ := hsz
      refine ⟨.string (keyBytes [.int .i64 a, .int .i64 b, .int .i64 c]), ?_⟩
      unfold keyOf
      simp only [A.hu]
      rw [if_pos (by simp [aggZ, hkt, Value.formed, A.hu, A.size]), hm]
      unfold Program.keyLits
      simp only [A.hu, Value.cells, aggZ]
      rw [if_pos (by rw [A.size]; rfl), show List.range 3 = [0, 1, 2] from rfl, List.mapM_cons, List.mapM_cons, List.mapM_cons, List.mapM_nil]
      simp [A.one, Program.keyLits, he, hw a (by simp), hw b (by simp), hw c (by simp)]
  inv key kl h := by
    unfold keyOf at h
    simp only [A.hu] at h
    split at h
    · rename_i hf
      rw [Bool.and_eq_true] at hf
      have hf2 := hf.2
      cases key <;> simp [Value.formed, A.hu] at hf2
      rename_i cs
      rw [A.size] at hf2
      obtain ⟨l⟩ := cs
      match l, hf2 with
      | [c0, c1, c2], _ =>
        simp only [Option.map_eq_some_iff] at h
        obtain ⟨ls, h1, _⟩ := h
        unfold Program.keyLits at h1
        simp only [A.hu, Value.cells] at h1
        rw [if_pos (by rw [A.size]; rfl), show List.range 3 = [0, 1, 2] from rfl, List.mapM_cons, List.mapM_cons, List.mapM_cons, List.mapM_nil] at h1
        simp only [Option.map_eq_some_iff, bind, Option.bind_eq_some_iff, A.one] at h1
        obtain ⟨_, ⟨x0, e0, _, ⟨x1, e1, _, ⟨x2, e2, _⟩, _⟩, _⟩, _⟩ := h1
        obtain ⟨a, rfl, wa⟩ := keyLits_int1 he e0
        obtain ⟨b, rfl, wb⟩ := keyLits_int1 he e1
        obtain ⟨c, rfl, wc⟩ := keyLits_int1 he e2
        exact ⟨[a, b, c], ⟨rfl, by simp [wa, wb, wc]⟩, rfl⟩
    · cases h
end

section
open Go.RowKit Go.Maps Go.WideMaps

theorem arrQ : ArrKey Try.prog 46 3 4 := ⟨Try.underlying46, by kernel_rfl, by kernel_rfl, by kernel_rfl⟩
theorem keyQ : KeyZ Try.prog 46 4 := keyZ4 arrQ Try.underlying3 ⟨Try.prog.types.size - 1, by kernel_rfl⟩
abbrev SetQ (w : World) (B : Nat) (L : List (List Int)) : Prop := OwnSet Try.prog 46 4 4 w B L
abbrev RanQ (w : World) (B r : Nat) (L todo : List (List Int)) (cnt : Nat) : Prop := RangeSet Try.prog 46 4 4 w B r L todo cnt
theorem setQ_grown (w : World) (B : Nat) (p q r s : Int) :
    w.grownBy ((((w.setCell ⟨B, 0, none⟩ (.int .i64 p)).setCell ⟨B, 1, none⟩ (.int .i64 q)).setCell ⟨B, 2, none⟩ (.int .i64 r)).setCell ⟨B, 3, none⟩ (.int .i64 s)) (some B) := by
  have h : Below 0 w ((((w.setCell ⟨B, 0, none⟩ (.int .i64 p)).setCell ⟨B, 1, none⟩ (.int .i64 q)).setCell ⟨B, 2, none⟩ (.int .i64 r)).setCell ⟨B, 3, none⟩ (.int .i64 s)) :=
    Below.setCell (Below.setCell (Below.setCell (Below.setCell (Below.refl 0 w) (Nat.zero_le _) _) (Nat.zero_le _) _) (Nat.zero_le _) _) (Nat.zero_le _) _
  exact ⟨h.os, h.tape, h.output, h.size, fun i _ hne => setQ_far w B i p q r s (fun e => hne (by rw [e]))⟩
/-- the step, the key written out -/
theorem wpList_next_q {P : Program} {K E : TypeId} (w : World) {ops : Array Oper} {rest : List Oper} {o : Oper} {a : Act} {Q : Exit → Act → World → Prop}
    (hg : o.guard = none) (it : Operand) (hop : o.op = Op.next it false) (hk : KeyZ P K 4) (he : P.underlying E = some .bool) (B r : Nat) (L todo : List (List Int)) (cnt : Nat)
    (hit : a.eval it = .pointer (some ⟨r, 0, none⟩)) (h : RangeSet P K E 4 w B r L todo cnt)
    (hDone : todo = [] → wpList P ops Q rest (a.put o.dst (.tuple #[.bool false])) w)
    (hMore : ∀ (x0 x1 x2 x3 : Int) (w' : World) (cnt' : Nat), [x0, x1, x2, x3] ∈ todo → RangeSet P K E 4 w' B r L (todo.erase [x0, x1, x2, x3]) cnt' → cnt' < cnt → w.grownBy w' (some r) → w'.heap.size = w.heap.size →
      (Instr.entry (.pointer (some ⟨r, 0, none⟩))).run P w' = .ok (.tuple #[.agg #[.int .i64 x0, .int .i64 x1, .int .i64 x2, .int .i64 x3], .bool true]) w' → wpList P ops Q rest (a.put o.dst (.tuple #[.bool true, .agg #[.int .i64 x0, .int .i64 x1, .int .i64 x2, .int .i64 x3], .bool true])) w') : wpList P ops Q (o :: rest) a w := by
  have hgood := h.owns.good
  have hin : ∀ zs ∈ todo, zs ∈ L := by obtain ⟨_, _, _, _, _, h4, _⟩ := h; exact h4
  refine wpList_next_set w hg it hop hk he B r L todo cnt hit h hDone fun zs w' cnt' h1 h2 h3 h4 h5 h6 => ?_
  have hl := (hgood zs (hin zs h1)).1
  match zs, hl with
  | [x0, x1, x2, x3], _ => exact hMore x0 x1 x2 x3 w' cnt' h1 h2 h3 h4 h5 h6

set_option maxRecDepth 20000 in
set_option maxHeartbeats 2000000 in
theorem takeOneQ_any (B : Nat) (L : List (List Int)) (w : World) (h : SetQ w B L) (hne : L ≠ []) :
    Calls Try.prog 44 #[.map (some B)] w fun e w' => ∃ x0 x1 x2 x3 : Int, [x0, x1, x2, x3] ∈ L ∧ e = .returned (.agg #[.int .i64 x0, .int .i64 x1, .int .i64 x2, .int .i64 x3]) ∧ SetQ w' B (L.erase [x0, x1, x2, x3]) ∧ w.grownBy w' (some B) := by
  have HNE := hid hne
  clear hne
  have h1 : SetQ (w.alloc (.cells #[.int .i64 0, .int .i64 0, .int .i64 0, .int .i64 0] 46)) B L := h.kept (World.grownBy_alloc w _ none) (by simp)
  have HBL := hid h.lt
  clear h
  go_enter Try.func44, Try.ntmps44
  go_wp2_with (first
    | (at_range; refine wpList_range_set _ rfl _ 60 rfl keyQ Try.underlying60 B L rfl h1 ?_; intro w0 hrg0 hg0 hs0)
    | go_in)
  go_frame
  have hgw : w.grownBy w0 none := (World.grownBy_alloc w _ none).trans hg0
  have hsz : w0.heap.size = w.heap.size + 2 := by rw [hs0]; simp
  rw [show (w.alloc (.cells #[.int .i64 0, .int .i64 0, .int .i64 0, .int .i64 0] 46)).heap.size = w.heap.size + 1 by simp] at hrg0 ⊢
  have hQB : QBox w0 w.heap.size 0 0 0 0 := (QBox.new w 0 0 0 0).keep (hg0.block w.heap.size (by simp) (by simp))
  have HR := hid hrg0
  have HG := hid hgw
  have HQ := hid hQB
  have HSZ := hid hsz
  clear hrg0 hgw hQB hsz hg0 hs0 h1
  go_loopw [7] (fun _ wr => wr = w0) (fun _ _ => 0)
  case atStart => exact rfl
  case round =>
    obtain rfl := hrel
    go_wp2_with (first
      | (at_next; refine wpList_next_q _ rfl _ rfl keyQ Try.underlying4 B (w.heap.size + 1) L L _ rfl HR.out ?_ ?_)
      | go_in)
    · intro hL
      exact absurd hL HNE.out
    · intro x0 x1 x2 x3 w1 cnt1 hin hrg1 hlt hg1 hs1 hen
      have HIN := hid hin
      have HO1 := hid hrg1.owns
      have HQ1 := hid (HQ.out.keep (hg1.block w.heap.size (by have := HSZ.out; omega) (by simp)))
      have HG1 := hid hg1
      have HS1 := hid hs1
      clear hin hrg1 hlt hg1 hs1
      have HO2 := hid (HO1.out.kept (World.grownBy_alloc w1 (.cells #[.int .i64 x0, .int .i64 x1, .int .i64 x2, .int .i64 x3] 46) none) (by simp))
      have HX := hid (QBox.new w1 x0 x1 x2 x3)
      have HQ2 := hid (HQ1.out.keep ((World.grownBy_alloc w1 (.cells #[.int .i64 x0, .int .i64 x1, .int .i64 x2, .int .i64 x3] 46) none).block w.heap.size (by have := HSZ.out; have := HS1.out; omega) (by simp)))
      have HG2 := hid (((HG.out.but (some B)).andThen HG1.out (fun j hj => by cases hj; exact Or.inl (Nat.le_succ _))).andThen (World.grownBy_alloc w1 (.cells #[.int .i64 x0, .int .i64 x1, .int .i64 x2, .int .i64 x3] 46) none) (fun j hj => by cases hj))
      have HS2 := hid (show (w1.alloc (.cells #[.int .i64 x0, .int .i64 x1, .int .i64 x2, .int .i64 x3] 46)).heap.size = w1.heap.size + 1 by simp)
      have HB1 := hid (show w1.heap.size ≠ B by have := HSZ.out; have := HS1.out; have := HBL.out; omega)
      go_wp2_with (first
        | (at_delete; refine wpList_del_set _ rfl _ _ 60 46 rfl rfl keyQ Try.underlying60 B L rfl HO2.out [x0, x1, x2, x3] rfl HIN.out ?_; intro w2 hown2 hturn2; have hg2 := hturn2.grown
           ; have hx2 := HX.out.keep (hg2.block w1.heap.size (by have := HS2.out; omega) (fun e => HB1.out (Option.some.inj e)))
           ; have hq2 := HQ2.out.keep (hg2.block w.heap.size (by have := HS2.out; have := HSZ.out; have := HS1.out; omega) (fun e => by have := HBL.out; have := Option.some.inj e; omega))
           ; have cx0 := hx2.c0; have cx1 := hx2.c1; have cx2 := hx2.c2; have cx3 := hx2.c3
           ; have cq0 := hq2.c0; have cq1 := hq2.c1; have cq2 := hq2.c2; have cq3 := hq2.c3; have fq0 := hq2.f0; have fq1 := hq2.f1; have fq2 := hq2.f2; have fq3 := hq2.f3
           ; have HO3 := hid hown2; have HG3 := hid (HG2.out.andThen hg2 (fun j hj => Or.inr hj)); have HQ3 := hid hq2; clear hown2 hturn2 hg2 hx2 hq2)
        | go_in)
      have HG5 := hid (HG3.out.andThen (setQ_grown w2 w.heap.size x0 x1 x2 x3) (fun j hj => by cases hj; exact Or.inl (Nat.le_refl _)))
      have HO5 := hid (HO3.out.kept (setQ_grown w2 w.heap.size x0 x1 x2 x3) (fun e => by have := HBL.out; have := Option.some.inj e; omega))
      have hq5 := HQ3.out.set x0 x1 x2 x3
      clear cx0 cx1 cx2 cx3 cq0 cq1 cq2 cq3 fq0 fq1 fq2 fq3
      generalize ((((w2.setCell ⟨w.heap.size, 0, none⟩ (.int .i64 x0)).setCell ⟨w.heap.size, 1, none⟩ (.int .i64 x1)).setCell ⟨w.heap.size, 2, none⟩ (.int .i64 x2)).setCell ⟨w.heap.size, 3, none⟩ (.int .i64 x3)) = w5 at HG5 HO5 hq5 ⊢
      obtain ⟨d0, d1, d2, d3, _, _, _, _⟩ := hq5
      refine bodyPost_ret (v := .agg #[.int .i64 x0, .int .i64 x1, .int .i64 x2, .int .i64 x3]) ?_ rfl ⟨x0, x1, x2, x3, HIN.out, rfl, HO5.out, HG5.out⟩
      rw [results_cellQ rfl]
      go_simp
end

section
open Go.RowKit Go.Maps

section
variable {P : Program} {K T E : TypeId} {m B r cnt : Nat} {L todo : List (List Int)}
theorem RangeSet.of_walks {w w' : World} (h : RangeSet P K E m w B r L todo cnt) (hk : KeepsWalks w w') : RangeSet P K E m w' B r L todo cnt := by
  obtain ⟨D, left, h1, h2⟩ := h; exact ⟨D, left, h1.of_walks hk, h2⟩
theorem RangeSet.iter_walk {w : World} (h : RangeSet P K E m w B r L todo cnt) : ∃ o : Obj, w.heap[r]? = some o ∧ o.isWalk = true := by
  obtain ⟨D, left, h1, h2⟩ := h; exact h1.iter_walk
variable {F : Fence} {n : Nat} (w : World) {ops : Array Oper} {rest : List Oper} {o : Oper} {a : Act} {Q : Exit → Act → World → Prop}
theorem wpListIn_range_set (hg : o.guard = none) (mm : Operand) (t : TypeId) (hop : o.op = Op.range t mm) (hk : KeyZ P K m) (ht : P.underlying t = some (.map K E)) (B : Nat) (L : List (List Int))
    (hm : a.eval mm = .map (some B)) (hown : OwnSet P K E m w B L)
    (hK : ∀ w', RangeSet P K E m w' B w.heap.size L L L.length → w.grownBy w' none → w'.heap.size = w.heap.size + 1 → wpListIn F n P ops Q rest (a.put o.dst (.pointer (some ⟨w.heap.size, 0, none⟩))) w') : wpListIn F n P ops Q (o :: rest) a w := by
  obtain ⟨D, h1, h2⟩ := hown
  refine wpListIn_range_own w hg mm t hop K E hk.law ht _ B _ D hm h1 fun w' r1 r2 r3 => hK w' ⟨D, _, ?_, h2, h2.nodup, fun _ h => h, h2.has⟩ r2 r3
  rw [h2.size] at r1
  exact r1
def qOf (zs : List Int) : Qd4 := (zs.getD 0 0, zs.getD 1 0, zs.getD 2 0, zs.getD 3 0)
def encQ (t : Qd4) : Value := .agg #[.int .i64 t.1, .int .i64 t.2.1, .int .i64 t.2.2.1, .int .i64 t.2.2.2]
theorem aggZ_qsL (t : Qd4) : aggZ (qsL t) = encQ t := rfl
theorem qsL_of {zs : List Int} (h : zs.length = 4) : ∃ t : Qd4, zs = qsL t := by
  match zs, h with
  | [a, b, c, d], _ => exact ⟨(a, b, c, d), rfl⟩
theorem qsL_inj {s t : Qd4} (h : qsL s = qsL t) : s = t := by
  obtain ⟨a, b, c, d⟩ := s
  obtain ⟨a', b', c', d'⟩ := t
  simp [qsL] at h
  simp [h]
theorem wpListIn_next_q (hg : o.guard = none) (it : Operand) (hop : o.op = Op.next it false) (hk : KeyZ P K 4) (he : P.underlying E = some .bool) (B r : Nat) (L todo : List (List Int)) (cnt : Nat)
    (hit : a.eval it = .pointer (some ⟨r, 0, none⟩)) (h : RangeSet P K E 4 w B r L todo cnt)
    (hDone : todo = [] → wpListIn F n P ops Q rest (a.put o.dst (.tuple #[.bool false])) w)
    (hMore : ∀ (x0 x1 x2 x3 : Int) (w' : World) (cnt' : Nat), [x0, x1, x2, x3] ∈ todo → RangeSet P K E 4 w' B r L (todo.erase [x0, x1, x2, x3]) cnt' → cnt' < cnt → w.grownBy w' (some r) → w'.heap.size = w.heap.size →
      (Instr.entry (.pointer (some ⟨r, 0, none⟩))).run P w' = .ok (.tuple #[.agg #[.int .i64 x0, .int .i64 x1, .int .i64 x2, .int .i64 x3], .bool true]) w' → wpListIn F n P ops Q rest (a.put o.dst (.tuple #[.bool true, .agg #[.int .i64 x0, .int .i64 x1, .int .i64 x2, .int .i64 x3], .bool true])) w') : wpListIn F n P ops Q (o :: rest) a w := by
  obtain ⟨D, left, h1, h2, h3, h4, h5⟩ := h
  refine wpListIn_next_ranges w hg it hop K hk.law (plainElem P E) encQ Value.bool (fun key kl hkey => ?_) (fun v y hv => ?_) B r _ D left cnt hit h1 (fun _ hl => hDone ?_) (fun t c kl y w' cnt' hkey hlk hv hat hrg hlt hgr hsz hen => ?_)
  · obtain ⟨zs, hz, e⟩ := hk.inv key kl hkey
    obtain ⟨t, rfl⟩ := qsL_of hz.1
    exact ⟨t, e⟩
  · obtain ⟨x, e, _⟩ := plainElem_bool_inv he hv
    exact ⟨x, e⟩
  · cases todo with
    | nil => rfl
    | cons x xs =>
      have := (h5 (litZ P K x)).2 ⟨x, by simp, rfl⟩
      rw [hl] at this
      cases this
  · obtain ⟨ys, hy, e⟩ := (h5 kl).1 hlk
    have hgy := h2.good ys (h4 ys hy)
    have hzy : qsL t = ys := by
      refine aggZ_inj (hk.law.inj hkey ?_)
      rw [e]; exact hk.key hgy
    subst hzy
    have hc : c = true := by
      obtain ⟨c', e1, e2⟩ := plainElem_bool_inv he hv
      have h6 := h2.val _ (h4 _ hy) (.lit (.bool false))
      rw [← e, hat, e2] at h6
      cases e1
      simpa using h6
    subst hc
    refine hMore t.1 t.2.1 t.2.2.1 t.2.2.2 w' cnt' hy ⟨D, _, hrg, h2, h3.erase _, fun xs hx => h4 xs (List.mem_of_mem_erase hx), fun kl' => ?_⟩ hlt hgr hsz hen
    simp only [Bool.and_eq_true, Bool.not_eq_true']
    rw [h5]
    constructor
    · rintro ⟨⟨xs, hx, e2⟩, hne⟩
      refine ⟨xs, h3.mem_erase_iff.2 ⟨fun e3 => ?_, hx⟩, e2⟩
      have e4 : kl' = litZ P K (qsL t) := by rw [e2, e3]; rfl
      rw [e4, e, WideAt.sameKey_self (hk.isKey hgy)] at hne
      cases hne
    · rintro ⟨xs, hx, e2⟩
      obtain ⟨hne, hx2⟩ := h3.mem_erase_iff.1 hx
      refine ⟨⟨xs, hx2, e2⟩, sameKey_ne fun e3 => hne ?_⟩
      rw [e2, e] at e3
      exact hk.inj (h2.good xs (h4 xs hx2)) hgy e3
end

set_option maxRecDepth 100000 in
set_option maxHeartbeats 1000000 in
/-- the iterator over a set's members: each comes once, in some order -/
theorem keys1Q_in (F : Fence) (n : Nat) (hf : F.fn 58) (hro : F.round = none) (hn : 1 ≤ n) (l Bm b : Nat) (L : List (List Int)) (J : List Qd4 → World → Prop)
    (hY : ∀ pre x W, J pre W → pre.length < L.length → YieldAt F (n - 1) Try.prog l #[encQ x] W fun e W' => e = .returned (.bool true) ∧ J (pre ++ [x]) W' ∧ KeepsWalks W W')
    (W : World) (hJ : AbidesFrom W.heap.size J) (hm : W.cell? ⟨Bm, 0, none⟩ = some (.map (some b))) (hown : SetQ W b L) (h0 : J [] W) :
    CallsIn F n Try.prog 58 #[.func (.yield l) #[] #[], .pointer (some ⟨Bm, 0, none⟩)] W fun e W' => (∃ v, e = .returned v) ∧ ∃ ss : List Qd4, (ss.map qsL).Perm L ∧ J ss W' := by
  refine callsIn_of_wp Try.func58 rfl hf ?_ hro
  simp only [Try.ntmps58, List.size_toArray, List.length_cons, List.length_nil, Nat.reduceAdd, Nat.reduceSub, Array.replicate_succ, Array.replicate_zero, List.push_toArray, List.append_toArray, List.nil_append, List.cons_append]
  gi_wp2_with (first
    | (gi_at_range; refine wpListIn_range_set _ rfl _ 60 rfl keyQ Try.underlying60 b L rfl hown ?_; intro w0 hrg0 hg0 hs0)
    | gi_in)
  go_frame
  gi_loopw [6] (fun _ wr => ∃ (todo : List (List Int)) (cnt : Nat) (ss : List Qd4), RanQ wr b W.heap.size L todo cnt ∧ (ss.map qsL ++ todo).Perm L ∧ J ss wr)
    (fun _ wr => wr.rangeLeft b W.heap.size)
  case atStart =>
    exact ⟨_, _, [], hrg0, by simp, hJ [] W w0 none h0 hg0 (fun r e => by cases e)⟩
  case round =>
    obtain ⟨todo, cnt, ss, hrg, hcs, hJs⟩ := hrel
    gi_wp2_with (first
      | (gi_at_next; refine wpListIn_next_q _ rfl _ rfl keyQ Try.underlying4 b W.heap.size L todo cnt rfl hrg ?_ ?_)
      | gi_in)
    · intro ht
      gi_wp2
      go_end0
      rw [ht, List.append_nil] at hcs
      exact ⟨⟨_, rfl⟩, ss, hcs, hJs⟩
    · intro x0 x1 x2 x3 w2 cnt2 hin hrg2 hlt hg2 hs2 hen
      have hJ2 : J ss w2 := hJ ss wr w2 (some W.heap.size) hJs hg2 (fun r e => by cases e; exact ⟨Nat.le_refl _, hrg.iter_walk⟩)
      have hJ3 : J ss (w2.alloc (.cells #[.int .i64 x0, .int .i64 x1, .int .i64 x2, .int .i64 x3] 46)) := hJ ss w2 _ none hJ2 (World.grownBy_alloc _ _ _) (fun r e => by cases e)
      have hlen : ss.length < L.length := by
        have h1 := hcs.length_eq
        have h2 := List.length_pos_of_mem hin
        simp at h1
        omega
      obtain ⟨fn, tmps, assign, body, hy, hR⟩ := hY ss (x0, x1, x2, x3) _ hJ3 hlen
      have hperm : ((ss ++ [(x0, x1, x2, x3)]).map qsL ++ todo.erase [x0, x1, x2, x3]).Perm L := by
        refine List.Perm.trans ?_ hcs
        rw [List.map_append, List.append_assoc]
        exact List.Perm.append_left _ (List.perm_cons_erase hin).symm
      have hrg3 := hrg2.kept (World.grownBy_alloc w2 (.cells #[.int .i64 x0, .int .i64 x1, .int .i64 x2, .int .i64 x3] 46) none) (by simp) (by simp)
      have HX := hid (QBox.new w2 x0 x1 x2 x3)
      simp only [encQ] at hy
      clear hs2
      gi_wp2
      refine hR.mono ?_
      rintro e W3 ⟨rfl, hJ4, hk3⟩
      gi_wp2
      have hrg4 := hrg3.of_walks hk3
      go_roundw
      case rel => exact ⟨_, cnt2, _, hrg4, hperm, hJ4⟩
      case measure => rw [hrg4.left_eq, hrg.left_eq]; exact hlt
end

section
open Go.RowKit Go.Maps Go.Shelf

/-- maps.Keys hands back an iterator over a set's members. -/
theorem keysQ_gives (F : Fence) (n : Nat) (hf : F.fn 58) (hro : F.round = none) (hn : 1 ≤ n) (Bm b : Nat) (L : List (List Int)) (w : World) (hBm : Bm < w.heap.size)
    (hm : w.cell? ⟨Bm, 0, none⟩ = some (.map (some b))) (hown : SetQ w b L) :
    SeqGives F n Try.prog 58 #[.pointer (some ⟨Bm, 0, none⟩)] encQ (fun ss => (ss.map qsL).Perm L) L.length w := fun l J W hW hJ hY h0 => by
  have hown' : SetQ W b L := by
    obtain ⟨D, hown, hs⟩ := hown
    have hbl := hown.lt
    obtain ⟨es, clock, hb, Ft, hs', hD⟩ := hown
    exact ⟨D, ⟨es, clock, (hW.block b hbl).trans hb, Ft, hs', hD⟩, hs⟩
  exact keys1Q_in F n hf hro hn l Bm b L J hY W hJ ((hW.cell (p := ⟨Bm, 0, none⟩) hBm).trans hm) hown' h0


def apAs : Code := (Code.region 2
              #[{ dst := some 5, op := Op.alloc 46, type := 0, pos := "iter.go:51", after := #[], guard := none },
                { dst := none, op := Op.store 46 (Operand.tmp 5) (Operand.tmp 7), type := 0, pos := "iter.go:51",
                  after := #[{ on := 0, ground := Ground.data }, { on := 0, ground := Ground.phase }], guard := none }]
              false)
def apBd : Code := (Code.block 1
              (Code.region 3
                #[{ dst := some 8, op := Op.load 50 (Operand.tmp 2), type := 50, pos := "iter.go:52", after := #[],
                    guard := none },
                  { dst := some 9, op := Op.load 46 (Operand.tmp 5), type := 46, pos := "iter.go:52", after := #[],
                    guard := none },
                  { dst := some 10, op := Op.buildSlice 50 1 #[(0, Operand.tmp 9)], type := 50, pos := "iter.go:52",
                    after := #[{ on := 1, ground := Ground.data }], guard := none },
                  { dst := some 11,
                    op :=
                      Op.call
                        { callee := Callee.builtin Builtin.append, args := #[Operand.tmp 8, Operand.tmp 10],
                          argTypes := #[50, 50] },
                    type := 50, pos := "iter.go:52",
                    after := #[{ on := 0, ground := Ground.data }, { on := 2, ground := Ground.data }], guard := none },
                  { dst := none, op := Op.store 50 (Operand.tmp 2) (Operand.tmp 11), type := 0, pos := "iter.go:52",
                    after :=
                      #[{ on := 3, ground := Ground.data }, { on := 3, ground := Ground.chain },
                        { on := 0, ground := Ground.phase }, { on := 1, ground := Ground.phase },
                        { on := 2, ground := Ground.phase }, { on := 3, ground := Ground.phase }],
                    guard := none }]
                false))
/-- The loop's record: the temporaries as they stood when it was entered. -/
def apRecQ (fn : FuncId) (sv : Value) (Bs D : Nat) (st : LoopState) (pend : Option Code) : Loop :=
  { state := st, pending := pend, fn, tmps := #[.slice none 0 0, sv, .pointer (some ⟨Bs, 0, none⟩), undef, .slice none 0 0, undef, sv, undef, undef, undef, undef, undef, undef], params := #[7], assign := apAs, body := apBd, defers := D }
/-- Between two rounds: the box holds a slice of the call's own with what has come. -/
structure ApQ (w0 : World) (fn : FuncId) (sv : Value) (Bs l D : Nat) (ss : List Qd4) (W : World) : Prop where
  box : ∃ v, W.heap[Bs]? = some (.cells #[v] 50 (0, 0)) ∧ OwnQs w0.heap.size W v ss
  L : W.heap[l]? = some (.loop (apRecQ fn sv Bs D .ready none))
  K : W.heap[D]? = some (.deferred (some []))
  below : Below w0.heap.size w0 W
theorem rowAbides {W W' : World} {row : Option Nat} {base : Nat} {e : TypeId} {size : Nat} {v : Value} {k : Nat} {xs : List Value} (h : W.ownsRow base e size v k xs) (hg : W.grownBy W' row)
    (hrow : ∀ r, row = some r → ∃ o : Obj, W.heap[r]? = some o ∧ o.isWalk = true) : W'.ownsRow base e size v k xs := by
  refine h.kept hg ?_
  rcases h.2 with ⟨rfl, _⟩ | ⟨g, cap, cur, rfl, _, hgb, _⟩
  · exact .inl rfl
  · refine .inr fun e' => ?_
    obtain ⟨o, ho, hw⟩ := hrow g (by simpa [Value.ownBlock] using e'.symm)
    rw [hgb] at ho; cases ho; cases hw
theorem apQ_abides (w0 : World) (fn : FuncId) (sv : Value) (Bs l D B : Nat) (hB : w0.heap.size ≤ B) : AbidesFrom B (ApQ w0 fn sv Bs l D) := fun s W W' row h hg hrow => by
  have hrow' : ∀ r, row = some r → ∃ o : Obj, W.heap[r]? = some o ∧ o.isWalk = true := fun r e => (hrow r e).2
  obtain ⟨v, hv, hr⟩ := h.box
  exact ⟨⟨v, (grownBy_keeps hg hrow' hv rfl).trans hv, rowAbides hr hg hrow'⟩, (grownBy_keeps hg hrow' h.L rfl).trans h.L, (grownBy_keeps hg hrow' h.K rfl).trans h.K,
    h.below.grown hg h.below.size (fun k e => Nat.le_trans hB (hrow k e).1)⟩
theorem grownPut (W : World) (l : Nat) (o : Obj) : W.grownBy (W.putObj l o) (some l) :=
  ⟨rfl, rfl, rfl, by simp, fun k _ hk => World.putObj_heap_other (fun e => hk (by rw [e]))⟩
theorem grownSet0 (W : World) (b : Nat) (v : Value) : W.grownBy (W.setCell ⟨b, 0, none⟩ v) (some b) :=
  ⟨rfl, rfl, rfl, (KeepsWalks.setCell W _ v).size, fun k _ hk => Below.heap_setCell _ _ _ k (fun e => hk (by rw [e]))⟩
theorem rowNe {W : World} {base : Nat} {e : TypeId} {size : Nat} {v : Value} {k : Nat} {xs : List Value} (h : W.ownsRow base e size v k xs) {j : Nat} {o : Obj} (hj : W.heap[j]? = some o) (hno : ∀ cur, o ≠ .cells cur e (0, 0)) :
    v.ownBlock = none ∨ v.ownBlock ≠ some j := by
  rcases h.2 with ⟨rfl, _⟩ | ⟨g, cap, cur, rfl, _, hgb, _⟩
  · exact .inl rfl
  · refine .inr fun e' => ?_
    have : g = j := by simpa [Value.ownBlock] using e'
    subst this; rw [hgb] at hj; cases hj; exact hno cur rfl
theorem boxCell {W : World} {B : Nat} {v : Value} {t : TypeId} (h : W.heap[B]? = some (.cells #[v] t (0, 0))) : W.cell? ⟨B, 0, none⟩ = some v ∧ W.frozen? ⟨B, 0, none⟩ = false := by
  constructor <;> simp [World.cell?, World.frozen?, h]
theorem boxSet {W : World} {B : Nat} {v : Value} {t : TypeId} (v' : Value) (h : W.heap[B]? = some (.cells #[v] t (0, 0))) : (W.setCell ⟨B, 0, none⟩ v').heap[B]? = some (.cells #[v'] t (0, 0)) := by
  obtain ⟨hlt, hk⟩ := Array.getElem?_eq_some_iff.1 h
  show (W.heap.modify B _)[B]? = _
  rw [Array.getElem?_eq_getElem (by rw [Array.size_modify]; exact hlt), Array.getElem_modify_self, hk]
  rfl
theorem rowNoWalk {W : World} {base : Nat} {e : TypeId} {size : Nat} {v : Value} {k : Nat} {xs : List Value} (h : W.ownsRow base e size v k xs) : ∀ (j : Nat) (o : Obj), v.ownBlock = some j → W.heap[j]? = some o → o.isWalk = false := by
  intro j o hj ho
  rcases h.2 with ⟨rfl, _⟩ | ⟨g, cap, cur, rfl, _, hgb, _⟩
  · simp [Value.ownBlock] at hj
  · have : g = j := by simpa [Value.ownBlock] using hj
    subst this; rw [hgb] at ho; cases ho; rfl

set_option maxRecDepth 100000 in
set_option maxHeartbeats 2000000 in
theorem apYieldQ (F : Fence) (m : Nat) (w0 : World) (fn : FuncId) (hfn : F.fn fn) (sv : Value) (Bs l D : Nat) (hBl : Bs ≠ l) (hDl : D ≠ l) (hDB : D ≠ Bs) (h0B : w0.heap.size ≤ Bs) (h0l : w0.heap.size ≤ l)
    (N : Nat) (hN : N ≤ maxLen) (hNb : N * 32 ≤ 140737488355328) (ss : List Qd4) (x : Qd4) (W : World) (h : ApQ w0 fn sv Bs l D ss W) (hlen : ss.length < N) :
    YieldAt F m Try.prog l #[encQ x] W fun e W' => e = .returned (.bool true) ∧ ApQ w0 fn sv Bs l D (ss ++ [x]) W' ∧ KeepsWalks W W' := by
  obtain ⟨i0, hi, hz0, hz1, hz2⟩ := info_parts Try.infoQd
  obtain ⟨v, hv, hrow⟩ := h.box
  refine ⟨fn, #[.slice none 0 0, sv, .pointer (some ⟨Bs, 0, none⟩), undef, .slice none 0 0, undef, sv, encQ x, undef, undef, undef, undef, undef], apAs, apBd, by simpa [apRecQ] using run_yield (P := Try.prog) (args := #[encQ x]) h.L rfl, roundIn_of_wpIn hfn ?_⟩
  -- the round's variable
  obtain ⟨W1, hW1⟩ : ∃ W1, W.alloc (.cells #[.int .i64 x.1, .int .i64 x.2.1, .int .i64 x.2.2.1, .int .i64 x.2.2.2] 46) = W1 := ⟨_, rfl⟩
  have hl0 : l < W.heap.size := (Array.getElem?_eq_some_iff.1 h.L).1
  have hB0 : Bs < W.heap.size := (Array.getElem?_eq_some_iff.1 hv).1
  have hD0 : D < W.heap.size := (Array.getElem?_eq_some_iff.1 h.K).1
  have hx1 : QBox W1 W.heap.size x.1 x.2.1 x.2.2.1 x.2.2.2 := by rw [← hW1]; exact QBox.new _ _ _ _ _
  have hs1 : W1.heap.size = W.heap.size + 1 := by rw [← hW1]; simp
  have hold1 : ∀ k, k < W.heap.size → W1.heap[k]? = W.heap[k]? := fun k hk => by rw [← hW1]; exact Below.heap_alloc _ _ k hk
  have hk1 : KeepsWalks W W1 := by rw [← hW1]; exact KeepsWalks.alloc _ _
  have hrow1 : OwnQs w0.heap.size W1 v ss := by rw [← hW1]; exact hrow.alloc _
  have hb1 : Below w0.heap.size w0 W1 := by rw [← hW1]; exact h.below.alloc h.below.size _
  have hv1 := (hold1 Bs hB0).trans hv
  have hL1 := (hold1 l hl0).trans h.L
  have hK1 := (hold1 D hD0).trans h.K
  have hl1 : l < W1.heap.size := by omega
  have hbr := run_beginRound (P := Try.prog) hL1 rfl
  obtain ⟨W2, hW2⟩ : ∃ W2, W1.putObj l (.loop { apRecQ fn sv Bs D .ready none with state := .busy }) = W2 := ⟨_, rfl⟩
  rw [hW2] at hbr
  have hg2 : W1.grownBy W2 (some l) := by rw [← hW2]; exact grownPut _ _ _
  have hk2 : KeepsWalks W W2 := hk1.trans (by rw [← hW2]; exact KeepsWalks.putObj _ hL1 rfl)
  have hv2 : W2.heap[Bs]? = some (.cells #[v] 50 (0, 0)) := by rw [← hW2]; exact (World.putObj_heap_other hBl).trans hv1
  have hK2 : W2.heap[D]? = some (.deferred (some [])) := by rw [← hW2]; exact (World.putObj_heap_other hDl).trans hK1
  have hL2 : W2.heap[l]? = some (.loop { apRecQ fn sv Bs D .ready none with state := .busy }) := by rw [← hW2]; exact World.putObj_heap_same hl1
  have hx2 : QBox W2 W.heap.size x.1 x.2.1 x.2.2.1 x.2.2.2 := hx1.keep (hg2.block W.heap.size (by omega) (fun e => by have := Option.some.inj e; omega))
  have hrow2 : OwnQs w0.heap.size W2 v ss := hrow1.kept hg2 (rowNe hrow1 hL1 (fun cur e => by cases e))
  have hb2 : Below w0.heap.size w0 W2 := hb1.grown hg2 hb1.size (fun k e => by cases e; exact h0l)
  have hBlt : Bs < W2.heap.size := (Array.getElem?_eq_some_iff.1 hv2).1
  have hl2 : l < W2.heap.size := (Array.getElem?_eq_some_iff.1 hL2).1
  have hDlt : D < W2.heap.size := (Array.getElem?_eq_some_iff.1 hK2).1
  have ne_of : ∀ {j : Nat} {o : Obj}, W2.heap[j]? = some o → (∀ cur, o ≠ .cells cur 46 (0, 0)) → some j ≠ v.ownBlock := fun hj hno => by
    rcases rowNe hrow2 hj hno with e | e
    · rw [e]; simp
    · exact fun e' => e e'.symm
  obtain ⟨hc2, hf2⟩ := boxCell hv2
  clear hW2
  unfold apAs
  simp only [encQ]
  gi_wp2_with (rw [Oper.semAt_eq _ _ _ (fun c h => by cases h)]; go_simp; try go_bits)
  unfold apBd
  obtain ⟨e0, e1, e2, e3, _, _, _, _⟩ := hx2
  clear hW1
  have hone : ∀ u ∈ [Value.int .i64 x.1, .int .i64 x.2.1, .int .i64 x.2.2.1, .int .i64 x.2.2.2], u.oneCell' = true := by simp [Value.oneCell']
  have hnew : ∀ (j : Nat) (u : Value), [Value.int .i64 x.1, .int .i64 x.2.1, .int .i64 x.2.2.1, .int .i64 x.2.2.2][j]? = some u → (W2.alloc (.cells #[.int .i64 x.1, .int .i64 x.2.1, .int .i64 x.2.2.1, .int .i64 x.2.2.2] 46)).cell? ((⟨W2.heap.size, 0, none⟩ : Addr).add j) = some u := by
    intro j u hu
    have hj : j < 4 := by
      have := (List.getElem?_eq_some_iff.1 hu).1
      simpa using this
    have hq := QBox.new W2 x.1 x.2.1 x.2.2.1 x.2.2.2
    rw [addr_add0]
    have h4 : j = 0 ∨ j = 1 ∨ j = 2 ∨ j = 3 := by omega
    rcases h4 with rfl | rfl | rfl | rfl <;> simp only [List.getElem?_cons_zero, List.getElem?_cons_succ, Option.some.injEq] at hu <;> subst hu
    · exact hq.c0
    · exact hq.c1
    · exact hq.c2
    · exact hq.c3
  have hcells : qCells (ss ++ [x]) = qCells ss ++ [.int .i64 x.1, .int .i64 x.2.1, .int .i64 x.2.2.1, .int .i64 x.2.2.2] := qCells_snoc ss x
  gi_wp2_with (first
    | (gi_at_builtin; refine wpListIn_append_own _ rfl _ _ 50 rfl w0.heap.size 46 i0 (.agg #[.int .i64 0, .int .i64 0, .int .i64 0, .int .i64 0]) 4 32 Try.underlying50 hi hz0 hz1 hz2 rfl (by decide) _ _ _ rfl (hrow2.alloc _) ⟨W2.heap.size, 0, none⟩ 1 1 [.int .i64 x.1, .int .i64 x.2.1, .int .i64 x.2.2.1, .int .i64 x.2.2.2] rfl rfl hnew hone (by omega) (by omega) (by have := hb2.size; simp; omega) ?_; intro v' w3 hown' hg3 hnil3
       have hv3 : w3.heap[Bs]? = some (.cells #[v] 50 (0, 0)) := (hg3.block Bs (by simp; omega) (ne_of hv2 (fun cur e => by cases e))).trans ((Below.heap_alloc _ _ Bs hBlt).trans hv2)
       obtain ⟨hc3, hf3⟩ := boxCell hv3
       obtain ⟨g', cap', cur', rfl, hbase', hgb', hr1, hr2, hr3, hr4⟩ : ∃ g' cap' cur', v' = .slice (some ⟨g', 0, none⟩) (ss.length + 1) cap' ∧ w0.heap.size ≤ g' ∧ w3.heap[g']? = some (.cells cur' 46 (0, 0)) ∧ ss.length + 1 ≤ cap' ∧ cap' ≤ maxLen ∧ cur'.size = cap' * 4 ∧ cur'.toList.take ((ss.length + 1) * 4) = qCells ss ++ [.int .i64 x.1, .int .i64 x.2.1, .int .i64 x.2.2.1, .int .i64 x.2.2.2] := by
         rcases hown'.2 with ⟨_, h0⟩ | h'
         · exact absurd h0 (by omega)
         · exact h'
       go_frame)
    | (rw [Oper.semAt_eq _ _ _ (fun c h => by cases h)]; go_simp; try go_bits))
  have hg3' : (W2.alloc (.cells #[.int .i64 x.1, .int .i64 x.2.1, .int .i64 x.2.2.1, .int .i64 x.2.2.2] 46)).grownBy w3 v.ownBlock := hg3
  have hL3 : w3.heap[l]? = some (.loop { apRecQ fn sv Bs D .ready none with state := .busy }) := (hg3'.block l (by simp; omega) (ne_of hL2 (fun cur e => by cases e))).trans ((Below.heap_alloc _ _ l hl2).trans hL2)
  have hK3 : w3.heap[D]? = some (.deferred (some [])) := (hg3'.block D (by simp; omega) (ne_of hK2 (fun cur e => by cases e))).trans ((Below.heap_alloc _ _ D hDlt).trans hK2)
  obtain ⟨w4, hw4⟩ : ∃ w4, w3.setCell ⟨Bs, 0, none⟩ (.slice (some ⟨g', 0, none⟩) (ss.length + 1) cap') = w4 := ⟨_, rfl⟩
  rw [hw4]
  have hg4 : w3.grownBy w4 (some Bs) := by rw [← hw4]; exact grownSet0 _ _ _
  have hv4 : w4.heap[Bs]? = some (.cells #[.slice (some ⟨g', 0, none⟩) (ss.length + 1) cap'] 50 (0, 0)) := by rw [← hw4]; exact boxSet _ hv3
  have hL4 : w4.heap[l]? = some (.loop { apRecQ fn sv Bs D .ready none with state := .busy }) := (hg4.block l (Array.getElem?_eq_some_iff.1 hL3).1 (fun e => hBl (by cases e; rfl))).trans hL3
  have hK4 : w4.heap[D]? = some (.deferred (some [])) := (hg4.block D (Array.getElem?_eq_some_iff.1 hK3).1 (fun e => hDB (by cases e; rfl))).trans hK3
  have hrow4 := hown'.kept hg4 (rowNe hown' hv3 (fun cur e => by cases e))
  have hl4 : l < w4.heap.size := (Array.getElem?_eq_some_iff.1 hL4).1
  have hb3 : Below w0.heap.size w0 w3 := (hb2.alloc hb2.size _).grown hg3' (by have := hb2.size; simp; omega) (fun k e => (hrow2.lt k e).1)
  have hb4 : Below w0.heap.size w0 w4 := hb3.grown hg4 hb3.size (fun k e => by cases e; exact h0B)
  have hk4 : KeepsWalks W w4 := ((hk2.trans (KeepsWalks.alloc _ _)).trans (KeepsWalks.of_grownBy hg3' (rowNoWalk (hrow2.alloc _)))).trans (by rw [← hw4]; exact KeepsWalks.setCell _ _ _)
  clear hw4
  refine ⟨_, _, run_endRound none hL4, rfl, ⟨⟨_, (World.putObj_heap_other hBl).trans hv4, ?_⟩, World.putObj_heap_same hl4, (World.putObj_heap_other hDl).trans hK4, hb4.grown (grownPut _ _ _) hb4.size (fun k e => by cases e; exact h0l)⟩, hk4.trans (KeepsWalks.putObj _ hL4 rfl)⟩
  have h5 := hrow4.kept (grownPut w4 l (.loop { { apRecQ fn sv Bs D .ready none with state := .busy } with state := if (none : Option Code).isNone then .ready else .done, pending := none })) (rowNe hrow4 hL4 (fun cur e => by cases e))
  unfold OwnQs
  rw [hcells, List.length_append]
  exact h5

set_option maxRecDepth 100000 in
set_option maxHeartbeats 2000000 in
theorem appendSeqQ_in (F : Fence) (n : Nat) (hf : F.fn 72) (hro : F.round = none) (hn : 2 ≤ n) (g : Nat) (lb : Array Value) (hFg : F.fn g) (eg : ∀ args w, (callFunc g args).run Try.prog w = .ok (.enter g args) w)
    (S : List Qd4 → Prop) (N : Nat) (hN : N ≤ maxLen) (hNb : N * 32 ≤ 140737488355328) (w : World) (hseq : SeqGives F (n - 1) Try.prog g lb encQ S N w) :
    CallsIn F n Try.prog 72 #[.slice none 0 0, .func (.func g) #[] lb] w fun e w' => ∃ (v : Value) (ss : List Qd4), e = .returned v ∧ S ss ∧ OwnQs w.heap.size w' v ss ∧ Below w.heap.size w w' := by
  have h1 : 1 ≤ n := by omega
  refine callsIn_of_wp_marks Try.func72 rfl hf ?_ hro
  simp only [Try.ntmps72, List.size_toArray, List.length_cons, List.length_nil, Nat.reduceAdd, Nat.reduceSub, Array.replicate_succ, Array.replicate_zero, List.push_toArray, List.append_toArray, List.nil_append, List.cons_append]
  gi_wp2
  refine wpIn_rangeFunc ?_
  intro fn hfn
  rw [hro]
  obtain ⟨W0, hW0⟩ : ∃ W0, w.alloc (.cells #[.slice none 0 0] 50) = W0 := ⟨_, rfl⟩
  have hs0 : W0.heap.size = w.heap.size + 1 := by rw [← hW0]; simp
  have hv0 : W0.heap[w.heap.size]? = some (.cells #[.slice none 0 0] 50 (0, 0)) := by rw [← hW0]; exact World.alloc_heap_new w _
  have hb0 : Below w.heap.size w W0 := by rw [← hW0]; exact (Below.refl _ w).alloc (Nat.le_refl _) _
  rw [hW0]
  obtain ⟨W1, hW1⟩ : ∃ W1, (W0.alloc (.deferred (some []))).alloc (.loop (apRecQ fn (.func (.func g) #[] lb) w.heap.size W0.heap.size .ready none)) = W1 := ⟨_, rfl⟩
  have hold : ∀ k, k < W0.heap.size → W1.heap[k]? = W0.heap[k]? := fun k hk => by
    rw [← hW1]; exact (Below.heap_alloc _ _ k (by simp; omega)).trans (Below.heap_alloc _ _ k hk)
  have hb1 : Below w.heap.size w W1 := by rw [← hW1]; exact (hb0.alloc hb0.size _).alloc (by have := hb0.size; simp; omega) _
  have hs1 : W1.heap.size = W0.heap.size + 2 := by rw [← hW1]; simp
  have hM : ApQ w fn (.func (.func g) #[] lb) w.heap.size (W0.heap.size + 1) W0.heap.size [] W1 :=
    ⟨⟨_, (hold w.heap.size (by omega)).trans hv0, ⟨rfl, .inl ⟨rfl, rfl⟩⟩⟩,
     by rw [← hW1]; have := World.alloc_heap_new (W0.alloc (.deferred (some []))) (.loop (apRecQ fn (.func (.func g) #[] lb) w.heap.size W0.heap.size .ready none)); rwa [World.size_alloc] at this,
     by rw [← hW1]; exact (Below.heap_alloc _ _ _ (by simp)).trans (World.alloc_heap_new W0 _), hb1⟩
  refine ⟨W0.heap.size + 1, [{ target := .collected W0.heap.size, args := #[] }], W1, { target := .fn (.func g) lb, args := #[.func (.yield (W0.heap.size + 1)) #[] #[]] }, W1, g,
    #[.func (.yield (W0.heap.size + 1)) #[] #[]] ++ lb, W1, ?_, ?_, ?_, ?_, fun _ => h1, ?_⟩
  · rw [← hW1]; exact run_enterLoop_outer _ _ _ _ _
  · simp [resolve, go_sem]
  · intro f' hf'; simp [Target.leads] at hf'; subst hf'; exact hFg
  · simp [invoke, go_sem, eg]
  · refine (hseq (W0.heap.size + 1) (ApQ w fn (.func (.func g) #[] lb) w.heap.size (W0.heap.size + 1) W0.heap.size) W1 hb1 (apQ_abides _ _ _ _ _ _ _ hb1.size)
      (fun pre x W hJ hl => apYieldQ F (n - 1 - 1) w fn hfn _ w.heap.size (W0.heap.size + 1) W0.heap.size (by omega) (by omega) (by omega) (Nat.le_refl _) (by omega) N hN hNb pre x W hJ hl) hM).mono ?_
    rintro e W2 ⟨⟨v0, rfl⟩, ss, hS, h2⟩
    obtain ⟨v, hv, hrow⟩ := h2.box
    have hend := run_endLoop (P := Try.prog) h2.L (by simp [apRecQ])
    obtain ⟨W3, hW3⟩ : ∃ W3, W2.putObj (W0.heap.size + 1) (.loop { apRecQ fn (.func (.func g) #[] lb) w.heap.size W0.heap.size .ready none with state := .exhausted }) = W3 := ⟨_, rfl⟩
    rw [hW3] at hend
    have hg3 : W2.grownBy W3 (some (W0.heap.size + 1)) := by rw [← hW3]; exact grownPut _ _ _
    have hv3 : W3.heap[w.heap.size]? = some (.cells #[v] 50 (0, 0)) := by rw [← hW3]; exact (World.putObj_heap_other (by omega)).trans hv
    have hK3 : W3.heap[W0.heap.size]? = some (.deferred (some [])) := by rw [← hW3]; exact (World.putObj_heap_other (by omega)).trans h2.K
    have hrow3 : OwnQs w.heap.size W3 v ss := hrow.kept hg3 (rowNe hrow h2.L (fun cur e => by cases e))
    have hb3 : Below w.heap.size w W3 := h2.below.grown hg3 h2.below.size (fun k e => by cases e; omega)
    obtain ⟨hc3, hf3⟩ := boxCell hv3
    clear hW3
    refine ⟨none, W3, hend, ?_⟩
    gi_wp2
    rw [← hs0]
    refine ⟨by simp, .inl ⟨_, _, rfl, run_takeDeferred hK3, ?_⟩⟩
    exact ⟨_, results_tmp rfl _ _ _, v, ss, rfl, hS, hrow3.kept (grownPut _ _ _) (rowNe hrow3 hK3 (fun cur e => by cases e)), hb3.grown (grownPut _ _ _) hb3.size (fun k e => by cases e; omega)⟩

set_option maxHeartbeats 1000000 in
theorem collectQ_in (F : Fence) (n : Nat) (h8 : F.fn 56) (h11 : F.fn 72) (hro : F.round = none) (hn : 3 ≤ n) (g : Nat) (lb : Array Value) (hFg : F.fn g) (eg : ∀ args w, (callFunc g args).run Try.prog w = .ok (.enter g args) w)
    (S : List Qd4 → Prop) (N : Nat) (hN : N ≤ maxLen) (hNb : N * 32 ≤ 140737488355328) (w : World) (hseq : SeqGives F (n - 1 - 1) Try.prog g lb encQ S N w) :
    CallsIn F n Try.prog 56 #[.func (.func g) #[] lb] w fun e w' => ∃ (v : Value) (ss : List Qd4), e = .returned v ∧ S ss ∧ OwnQs w.heap.size w' v ss ∧ Below w.heap.size w w' := by
  have h1 : 1 ≤ n := by omega
  refine callsIn_of_wp Try.func56 rfl h8 ?_ hro
  simp only [Try.ntmps56, List.size_toArray, List.length_cons, List.length_nil, Nat.reduceAdd, Nat.reduceSub, Array.replicate_succ, Array.replicate_zero, List.push_toArray, List.append_toArray, List.nil_append, List.cons_append]
  gi_wp2_with (gi_at_call 72; refine (appendSeqQ_in F (n - 1) h11 hro (by omega) g lb hFg eg S N hN hNb _ hseq).mono ?_; rintro e w' ⟨v, ss, rfl, hS, hrow, hb⟩)
  go_ret
  exact ⟨v, ss, rfl, hS, hrow, hb⟩
end

section
open Go.RowKit

def befQ : List Int → List Int → Bool
  | x :: xs, y :: ys => if x ≠ y then decide (x < y) else befQ xs ys
  | [], ys => decide (0 < ys.length)
  | _ :: _, [] => false
theorem befQ_irr (xs : List Int) : befQ xs xs = false := by
  induction xs with
  | nil => rfl
  | cons x xs ih => simp [befQ, ih]
theorem befQ_trans : ∀ {xs ys zs : List Int}, befQ xs ys = true → befQ ys zs = true → befQ xs zs = true := by
  intro xs
  induction xs with
  | nil =>
    intro ys zs h1 h2
    cases ys with
    | nil => simp [befQ] at h1
    | cons y ys =>
      cases zs with
      | nil => simp [befQ] at h2
      | cons z zs => simp [befQ]
  | cons x xs ih =>
    intro ys zs h1 h2
    cases ys with
    | nil => simp [befQ] at h1
    | cons y ys =>
      cases zs with
      | nil => simp [befQ] at h2
      | cons z zs =>
        unfold befQ at h1 h2 ⊢
        by_cases hxy : x = y
        · subst hxy
          by_cases hyz : x = z
          · subst hyz; simp at h1 h2 ⊢; exact ih h1 h2
          · simp [hyz] at h2 ⊢; exact h2
        · by_cases hyz : y = z
          · subst hyz; simp [hxy] at h1 ⊢; exact h1
          · simp [hxy] at h1; simp [hyz] at h2
            have : x ≠ z := by omega
            simp [this]; omega
theorem befQ_total : ∀ {xs ys : List Int}, befQ xs ys = false → xs ≠ ys → befQ ys xs = true := by
  intro xs
  induction xs with
  | nil =>
    intro ys h hne
    cases ys with
    | nil => exact absurd rfl hne
    | cons y ys => simp [befQ] at h
  | cons x xs ih =>
    intro ys h hne
    cases ys with
    | nil => simp [befQ]
    | cons y ys =>
      unfold befQ at h ⊢
      by_cases hxy : x = y
      · subst hxy
        simp at h hne ⊢
        exact ih h hne
      · have hyx : y ≠ x := fun e => hxy e.symm
        simp [hxy] at h
        simp [hyx]; omega
open Go.Sort in
theorem flat_qs (L : List Qd4) : (flatK qVs 4 L.toArray).toList = qCells L := by
  apply List.ext_getElem?
  intro t
  by_cases ht : t < L.length * 4
  · have hi : t / 4 < L.length := by omega
    have hat := qCells_at L (t / 4) hi
    have h4 : t % 4 = 0 ∨ t % 4 = 1 ∨ t % 4 = 2 ∨ t % 4 = 3 := by omega
    have e1 : (flatK qVs 4 L.toArray).toList[t]? = some ((qVs L[t / 4])[t % 4]!) := by
      rw [Array.getElem?_toList, Array.getElem?_eq_getElem (by simpa using ht)]
      simp [flatK, hi]
    rw [e1]
    generalize L[t / 4] = x at hat
    rcases h4 with h | h | h | h
    · rw [show t / 4 * 4 = t by omega] at hat; rw [h, hat.1]; rfl
    · rw [show t / 4 * 4 + 1 = t by omega] at hat; rw [h, hat.2.1]; rfl
    · rw [show t / 4 * 4 + 2 = t by omega] at hat; rw [h, hat.2.2.1]; rfl
    · rw [show t / 4 * 4 + 3 = t by omega] at hat; rw [h, hat.2.2.2]; rfl
  · rw [List.getElem?_eq_none (by simpa using ht), List.getElem?_eq_none (by rw [qCells_len]; omega)]
open Go.Sort in
theorem OwnQs.holds {lo : Nat} {w : World} {g cap : Nat} {L : List Qd4} (h : OwnQs lo w (.slice (some ⟨g, 0, none⟩) L.length cap) L) : HoldsK qVs 4 w g 0 L.toArray := by
  intro j hj
  have hj' : j < L.length * 4 := by simpa using hj
  have h' : w.ownsRow lo 46 4 (.slice (some ⟨g, 0, none⟩) L.length cap) L.length (qCells L) := h
  refine ⟨?_, by rw [Nat.zero_add]; exact h'.frozenAt j⟩
  rw [Nat.zero_add, h'.cellAt j hj', ← flat_qs, Array.getElem?_toList, Array.getElem?_eq_getElem (by simpa using hj)]
  show some _ = some ((flatK qVs 4 L.toArray)[j]!)
  rw [getElem!_pos (flatK qVs 4 L.toArray) j hj]
open Go.Sort in
/-- behind a contract in the sort's words -/
theorem OwnQs.putK {lo : Nat} {w : World} {g cap q : Nat} {L M : List Qd4} (h : OwnQs lo w (.slice (some ⟨g, 0, none⟩) L.length cap) L) (hl : M.length = L.length) :
    OwnQs lo (putRowK qVs 4 (Sort.ahead w q) g 0 M.toArray) (.slice (some ⟨g, 0, none⟩) L.length cap) M ∧ w.grownBy (putRowK qVs 4 (Sort.ahead w q) g 0 M.toArray) (some g) := by
  refine ⟨?_, rfl, rfl, rfl, by simp [putRowK, putRow, mapBlock, Sort.ahead], fun k hk hne => ?_⟩
  · rcases h.2 with ⟨e0, _⟩ | ⟨g', cap', cur, e0, hb, hg, hn, hm, hs, ht⟩
    · cases e0
    · injection e0 with e1 _ e3
      injection e1 with e1
      injection e1 with e1
      subst e1; subst e3
      unfold OwnQs
      rw [hl]
      refine ⟨by rw [qCells_len, hl], .inr ⟨g, cap, putCells id 0 (flatK qVs 4 M.toArray) cur, rfl, hb, ?_, hn, hm, by simpa [putCells] using hs, ?_⟩⟩
      · simp [putRowK, putRow, mapBlock, Sort.ahead, Array.getElem?_modify, hg, onCells]
      · rw [← flat_qs]
        apply List.ext_getElem?
        intro j
        rw [List.getElem?_take, Array.getElem?_toList, Array.getElem?_toList]
        by_cases hj : j < L.length * 4
        · have hjc : j < cur.size := by omega
          have hjf : j < (flatK qVs 4 M.toArray).size := by simp [hl]; exact hj
          simp only [if_pos hj, putCells, Array.getElem?_mapIdx, Array.getElem?_eq_getElem hjc, Option.map_some]
          rw [if_pos (by omega), Array.getElem?_eq_getElem hjf]
          simp only [Nat.sub_zero, id]
          rw [getElem!_pos (flatK qVs 4 M.toArray) j hjf]
        · rw [if_neg hj, Array.getElem?_eq_none (by simp [hl]; omega)]
  · have : g ≠ k := fun e => hne (by rw [e])
    simp [putRowK, putRow, mapBlock, Sort.ahead, Array.getElem?_modify, this]
def cmpQ (t u : Qd4) : Int := cmpLL (qsL t) (qsL u)
theorem cmpI_casesQ (x y : Int) : (x < y ∧ cmpI x y = -1) ∨ (x = y ∧ cmpI x y = 0) ∨ (y < x ∧ cmpI x y = 1) := by
  unfold cmpI
  by_cases h : x < y
  · exact .inl ⟨h, if_pos h⟩
  · by_cases h2 : y < x
    · exact .inr (.inr ⟨h2, by rw [if_neg h, if_pos h2]⟩)
    · exact .inr (.inl ⟨by omega, by rw [if_neg h, if_neg h2]⟩)
theorem cmpLL_befQ2 : ∀ {xs ys : List Int}, cmpLL xs ys < 0 ↔ befQ xs ys = true := by
  intro xs
  induction xs with
  | nil =>
    intro ys
    cases ys with
    | nil => simp [cmpLL, befQ]
    | cons y ys => simp [cmpLL, befQ]
  | cons x xs ih =>
    intro ys
    cases ys with
    | nil => simp [cmpLL, befQ]
    | cons y ys =>
      rcases cmpI_casesQ x y with ⟨h, e⟩ | ⟨h, e⟩ | ⟨h, e⟩
      · have hne : x ≠ y := by omega
        simp [cmpLL, befQ, e, hne, h]
      · subst h
        simp only [cmpLL, befQ, e, if_pos]
        simpa using ih
      · have hne : x ≠ y := by omega
        have hnl : ¬ x < y := by omega
        simp [cmpLL, befQ, e, hne, hnl]
theorem ltQ (t u : Qd4) : ltOf cmpQ t u = befQ (qsL t) (qsL u) := by
  unfold ltOf cmpQ
  cases h : befQ (qsL t) (qsL u)
  · exact decide_eq_false (fun hc => by rw [cmpLL_befQ2.1 hc] at h; cases h)
  · exact decide_eq_true (cmpLL_befQ2.2 h)
theorem swoQ : Go.Sort.SWO (ltOf cmpQ) := by
  refine ⟨fun x => ?_, fun x y z h1 h2 => ?_, fun x y z h1 h2 => ?_⟩
  · rw [ltQ]; exact befQ_irr _
  · rw [ltQ] at *; exact befQ_trans h1 h2
  · rw [ltQ] at *
    cases h : befQ (qsL x) (qsL z)
    · rfl
    · by_cases e : qsL x = qsL y
      · rw [e] at h; rw [h2] at h; cases h
      · rw [befQ_trans (befQ_total h1 e) h] at h2; cases h2
theorem totQ (x y : Qd4) (h1 : ltOf cmpQ x y = false) (h2 : ltOf cmpQ y x = false) : x = y := by
  rw [ltQ] at h1 h2
  apply Classical.byContradiction
  intro hne
  have := befQ_total h1 (fun e => hne (qsL_inj e))
  rw [h2] at this; cases this
def sortQd (L : List Qd4) : List Qd4 := L.mergeSort fun x y => !(ltOf cmpQ) y x
theorem box4_intsQ {w : World} {B : Nat} {x y z t : Int} (h0 : w.cell? ⟨B, 0, none⟩ = some (.int .i64 x)) (h1 : w.cell? ⟨B, 1, none⟩ = some (.int .i64 y)) (h2 : w.cell? ⟨B, 2, none⟩ = some (.int .i64 z)) (h3 : w.cell? ⟨B, 3, none⟩ = some (.int .i64 t)) : Ints w (.slice (some ⟨B, 0, none⟩) 4 4) [x, y, z, t] := by
  refine ⟨_, 4, rfl, by simp, fun i hi => ⟨_, rfl, ?_⟩⟩
  match i, hi with
  | 0, _ => exact h0
  | 1, _ => exact h1
  | 2, _ => exact h2
  | 3, _ => exact h3
def q2W (w : World) (x y z t p q r s : Int) : World := (w.alloc (.cells #[.int .i64 x, .int .i64 y, .int .i64 z, .int .i64 t] 46)).alloc (.cells #[.int .i64 p, .int .i64 q, .int .i64 r, .int .i64 s] 46)

open Go.Sort in
set_option maxRecDepth 20000 in
set_option maxHeartbeats 2000000 in
theorem compareQ_any (t u : Qd4) (w : World) :
    Calls Try.prog 33 #[.agg #[.int .i64 t.1, .int .i64 t.2.1, .int .i64 t.2.2.1, .int .i64 t.2.2.2], .agg #[.int .i64 u.1, .int .i64 u.2.1, .int .i64 u.2.2.1, .int .i64 u.2.2.2]] w fun e w' => e = .returned (.int .i64 (cmpQ t u)) ∧ ∃ q os', w' = grow (w.drewN q) os' := by
  obtain ⟨x, y, z, t⟩ := t
  obtain ⟨p, q, r, s⟩ := u
  simp only
  obtain ⟨o, ho⟩ : ∃ o, cmpQ (x, y, z, t) (p, q, r, s) = o := ⟨_, rfl⟩
  have HC := hid (fun (v v' : Value) w' (h1 : Ints w' v [x, y, z, t]) (h2 : Ints w' v' [p, q, r, s]) => show Calls Try.prog 49 #[v, v'] w' fun e w2 => e = .returned (.int .i64 o) ∧ w2 = w' by rw [← ho]; exact (compareL_any v v' _ _ 4 w' rfl rfl h1 h2).mono fun _ _ h => ⟨h.1, h.2.symm⟩)
  rw [ho]
  clear ho
  go_enter Try.func33, Try.ntmps33
  go_upto_region 1 with fail
  have hw : (w.alloc (.cells #[.int .i64 x, .int .i64 y, .int .i64 z, .int .i64 t] 46)).alloc (.cells #[.int .i64 p, .int .i64 q, .int .i64 r, .int .i64 s] 46) = q2W w x y z t p q r s := rfl
  rw [hw]
  have HG := hid (show q2W w x y z t p q r s = grow w #[.cells #[.int .i64 x, .int .i64 y, .int .i64 z, .int .i64 t] 46, .cells #[.int .i64 p, .int .i64 q, .int .i64 r, .int .i64 s] 46] from rfl)
  have c0 : (q2W w x y z t p q r s).cell? ⟨w.heap.size, 0, none⟩ = some (.int .i64 x) := by simp [q2W, go_sem]
  have c1 : (q2W w x y z t p q r s).cell? ⟨w.heap.size, 1, none⟩ = some (.int .i64 y) := by simp [q2W, go_sem]
  have c2 : (q2W w x y z t p q r s).cell? ⟨w.heap.size, 2, none⟩ = some (.int .i64 z) := by simp [q2W, go_sem]
  have c3 : (q2W w x y z t p q r s).cell? ⟨w.heap.size, 3, none⟩ = some (.int .i64 t) := by simp [q2W, go_sem]
  have d0 : (q2W w x y z t p q r s).cell? ⟨w.heap.size + 1, 0, none⟩ = some (.int .i64 p) := by simp [q2W, go_sem]
  have d1 : (q2W w x y z t p q r s).cell? ⟨w.heap.size + 1, 1, none⟩ = some (.int .i64 q) := by simp [q2W, go_sem]
  have d2 : (q2W w x y z t p q r s).cell? ⟨w.heap.size + 1, 2, none⟩ = some (.int .i64 r) := by simp [q2W, go_sem]
  have d3 : (q2W w x y z t p q r s).cell? ⟨w.heap.size + 1, 3, none⟩ = some (.int .i64 s) := by simp [q2W, go_sem]
  clear hw
  generalize q2W w x y z t p q r s = wa at HG c0 c1 c2 c3 d0 d1 d2 d3 ⊢
  have HI := hid (box4_intsQ c0 c1 c2 c3)
  have HJ := hid (box4_intsQ d0 d1 d2 d3)
  go_quiet (first | (go_at_call 49; exact Calls.quiet_of_same (HC.out _ _ _ (HI.out.later (Later.drewN wa _)) (HJ.out.later (Later.drewN wa _)))))
  rw [HG.out]
  go_wp2_with fail
  go_ret
  exact ⟨rfl, nq, _, rfl⟩
theorem grownBy_growQd (W : World) (os : Array Obj) : W.grownBy (Go.Sort.grow W os) none :=
  ⟨rfl, rfl, rfl, by simp, fun k hk _ => Go.Sort.heap_grow_old _ _ hk⟩
theorem laterGrowQd (W : World) (os : Array Obj) : Later W (Go.Sort.grow W os) := (Below.refl _ _).grown (grownBy_growQd W os) (Nat.le_refl _) (by simp)

open Go.Sort in
set_option maxRecDepth 20000 in
theorem sortQd_any {lo : Nat} (w0 : World) (v : Value) (L : List Qd4) (w : World) (hL0 : Later w0 w) (hlo : w0.heap.size ≤ lo) (hb : L.length ≤ 1000000) (h : OwnQs lo w v L) :
    Calls Try.prog 57 #[v, .func (.func 33) #[] #[]] w fun e w' => e = .returned (.tuple #[]) ∧ OwnQs lo w' v (sortQd L) ∧ Later w0 w' := by
  have hsl : (sortQd L).length = L.length := by unfold sortQd; exact List.length_mergeSort _
  rcases id h.2 with ⟨rfl, h0⟩ | ⟨g, cap, cur, rfl, hg, hgg, _⟩
  · obtain rfl : L = [] := List.eq_nil_of_length_eq_zero h0
    refine (show Calls Try.prog 57 #[.slice none 0 0, .func (.func 33) #[] #[]] w _ from AnyF.slices_SortFunc_none laysSoFQd none 0 (.func (.func 33) #[] #[]) w).mono ?_
    rintro e w' ⟨rfl, rfl⟩
    exact ⟨rfl, by rw [show sortQd [] = [] by simp [sortQd]]; exact h, hL0⟩
  · have hblk : g < w.heap.size := by
      apply Classical.byContradiction
      intro hn
      rw [Array.getElem?_eq_none (by omega)] at hgg
      cases hgg
    have hcmp : CmpLays Try.prog 33 #[] qVs 4 cmpQ g 0 L.toArray.size w := by
      intro m os dk hs a b
      exact compareQ_any a b _
    refine (show Calls Try.prog 57 #[.slice (some ⟨g, 0, none⟩) L.length cap, .func (.func 33) #[] #[]] w _ from AnyQ.slices_SortFunc_total laysSoFQd 4 Try.isAgg46 Try.sizeOf46 qVs (fun _ => rfl) (fun x v hv => by simp [qVs] at hv; rcases hv with rfl | rfl | rfl | rfl <;> rfl) cmpQ swoQ 33 #[] g 0 cap L.toArray w Try.call33 hcmp h.holds hblk (by simp; omega) totQ).mono ?_
    rintro e w' ⟨rfl, n, os, rfl⟩
    obtain ⟨hp1, hp2⟩ := h.putK (q := n) (M := sortQd L) hsl
    have hLg := laterGrowQd (putRowK qVs 4 (Sort.ahead w n) g 0 (sortQd L).toArray) os
    refine ⟨rfl, ?_, ?_⟩
    · show OwnQs lo (grow (putRowK qVs 4 (Sort.ahead w n) g 0 (sortQd L).toArray) os) _ _
      exact hp1.later hLg
    · show Later w0 (grow (putRowK qVs 4 (Sort.ahead w n) g 0 (sortQd L).toArray) os)
      exact Later.trans (show Later w0 _ from hL0.grown hp2 hL0.size (fun b' hb' => by have e := Option.some.inj hb'; subst e; omega)) hLg
end

section
open Go.RowKit Go.Maps Go.Shelf

def seqQ (Bm : Nat) : Value := .func (.func 58) #[] #[.pointer (some ⟨Bm, 0, none⟩)]
theorem keysQ_any (b : Nat) (w : World) :
    Calls Try.prog 46 #[.map (some b)] w fun e w' => e = .returned (seqQ w.heap.size) ∧ w' = w.alloc (.cells #[.map (some b)] 60) := by
  go_enter Try.func46, Try.ntmps46
  go_wp2_with fail
  go_ret
  exact ⟨rfl, rfl⟩
theorem collectQ_any (Bm b : Nat) (L : List (List Int)) (w : World) (hn : L.length ≤ 1000000) (hm : w.cell? ⟨Bm, 0, none⟩ = some (.map (some b))) (hown : SetQ w b L) :
    Calls Try.prog 56 #[seqQ Bm] w fun e w' => ∃ (v : Value) (ss : List Qd4), e = .returned v ∧ (ss.map qsL).Perm L ∧ OwnQs w.heap.size w' v ss ∧ Later w w' :=
  callsIn_wide.1 (collectQ_in Fence.wide 5 trivial trivial rfl (by omega) 58 _ trivial (enters_of Try.func58 (by kernel_rfl) rfl) (fun ss => (ss.map qsL).Perm L) L.length (by unfold maxLen; omega) (by omega) w
    (keysQ_gives Fence.wide _ trivial rfl (by omega) Bm b L w (World.block_lt_of_cell? w ⟨Bm, 0, none⟩ hm) hm hown))
set_option maxRecDepth 20000 in
set_option maxHeartbeats 1000000 in
theorem sortedFuncQ_any (Bm b : Nat) (L : List (List Int)) (w : World) (hn : L.length ≤ 1000000) (hm : w.cell? ⟨Bm, 0, none⟩ = some (.map (some b))) (hown : SetQ w b L) :
    Calls Try.prog 45 #[seqQ Bm, .func (.func 33) #[] #[]] w fun e w' => ∃ (v : Value) (ss : List Qd4), e = .returned v ∧ (ss.map qsL).Perm L ∧ OwnQs w.heap.size w' v (sortQd ss) ∧ Later w w' := by
  have HC := hid (collectQ_any Bm b L w hn hm hown)
  have HN := hid hn
  clear hm hown hn
  go_enter Try.func45, Try.ntmps45
  go_wp2_with (go_at_call 56; refine HC.out.mono ?_; rintro e w1 ⟨v1, ss, rfl, hp, ho, hl⟩)
  have HL := hid hl
  have HO := hid ho
  have HP := hid hp
  have HLS := hid (show ss.length ≤ 1000000 by have h1 := hp.length_eq; have h2 := HN.out; simp at h1; omega)
  clear hl ho hp
  go_wp2_with (go_at_call 57; refine (sortQd_any w v1 ss w1 HL.out (Nat.le_refl _) HLS.out HO.out).mono ?_; rintro e w2 ⟨rfl, ho2, hl2⟩)
  go_ret
  exact ⟨v1, ss, rfl, HP.out, ho2, hl2⟩
end

section
open Go.RowKit

def md24 (x : Int) : Int := remT x 24
theorem md24_in (x : Int) : 0 ≤ md24 x ∧ md24 x < 24 := remT_in x 24 (by omega)
theorem remainder24 (x : Int) (w : World) : Calls Try.prog 47 #[.int .i64 x, .int .i64 24] w fun e w' => e = .returned (.int .i64 (md24 x)) ∧ w' = w :=
  (remainder_any x 24 w ⟨by omega, by omega⟩).mono fun _ _ h => ⟨h.1, h.2.symm⟩
theorem QBox.set0 {w : World} {B : Nat} {a b c d : Int} (h : QBox w B a b c d) (x : Int) : QBox (w.setCell ⟨B, 0, none⟩ (.int .i64 x)) B x b c d := by
  obtain ⟨p, q, r, s, e, hb⟩ := h.one 0 (by omega) x
  simp at e; obtain ⟨rfl, rfl, rfl, rfl⟩ := e; exact hb
theorem QBox.set1 {w : World} {B : Nat} {a b c d : Int} (h : QBox w B a b c d) (x : Int) : QBox (w.setCell ⟨B, 1, none⟩ (.int .i64 x)) B a x c d := by
  obtain ⟨p, q, r, s, e, hb⟩ := h.one 1 (by omega) x
  simp at e; obtain ⟨rfl, rfl, rfl, rfl⟩ := e; exact hb
theorem QBox.set2 {w : World} {B : Nat} {a b c d : Int} (h : QBox w B a b c d) (x : Int) : QBox (w.setCell ⟨B, 2, none⟩ (.int .i64 x)) B a b x d := by
  obtain ⟨p, q, r, s, e, hb⟩ := h.one 2 (by omega) x
  simp at e; obtain ⟨rfl, rfl, rfl, rfl⟩ := e; exact hb
theorem QBox.set3 {w : World} {B : Nat} {a b c d : Int} (h : QBox w B a b c d) (x : Int) : QBox (w.setCell ⟨B, 3, none⟩ (.int .i64 x)) B a b c x := by
  obtain ⟨p, q, r, s, e, hb⟩ := h.one 3 (by omega) x
  simp at e; obtain ⟨rfl, rfl, rfl, rfl⟩ := e; exact hb
set_option maxRecDepth 20000 in
set_option maxHeartbeats 2000000 in
theorem moduloQ_any (a b c d : Int) (w : World) :
    Calls Try.prog 31 #[.agg #[.int .i64 a, .int .i64 b, .int .i64 c, .int .i64 d], .int .i64 24] w fun e w' => e = .returned (.agg #[.int .i64 (md24 a), .int .i64 (md24 b), .int .i64 (md24 c), .int .i64 (md24 d)]) ∧ Later w w' := by
  have hA := Later.alloc w (.cells #[.int .i64 a, .int .i64 b, .int .i64 c, .int .i64 d] 46)
  have hA2 := Later.alloc (w.alloc (.cells #[.int .i64 a, .int .i64 b, .int .i64 c, .int .i64 d] 46)) (.cells #[.int .i64 0, .int .i64 0, .int .i64 0, .int .i64 0] 46)
  have HB := hid ((QBox.new w a b c d).later hA2)
  have hR := QBox.new (w.alloc (.cells #[.int .i64 a, .int .i64 b, .int .i64 c, .int .i64 d] 46)) 0 0 0 0
  rw [show (w.alloc (.cells #[.int .i64 a, .int .i64 b, .int .i64 c, .int .i64 d] 46)).heap.size = w.heap.size + 1 by simp] at hR
  have HR := hid hR
  have HL := hid (hA.trans hA2)
  clear hA hA2 hR
  have j0 : ∀ w, (Instr.index 46 (.agg #[.int .i64 a, .int .i64 b, .int .i64 c, .int .i64 d]) (.int .i64 0)).run Try.prog w = .ok (.int .i64 a) w := fun _ => by kernel_rfl
  have j1 : ∀ w, (Instr.index 46 (.agg #[.int .i64 a, .int .i64 b, .int .i64 c, .int .i64 d]) (.int .i64 1)).run Try.prog w = .ok (.int .i64 b) w := fun _ => by kernel_rfl
  have j2 : ∀ w, (Instr.index 46 (.agg #[.int .i64 a, .int .i64 b, .int .i64 c, .int .i64 d]) (.int .i64 2)).run Try.prog w = .ok (.int .i64 c) w := fun _ => by kernel_rfl
  have j3 : ∀ w, (Instr.index 46 (.agg #[.int .i64 a, .int .i64 b, .int .i64 c, .int .i64 d]) (.int .i64 3)).run Try.prog w = .ok (.int .i64 d) w := fun _ => by kernel_rfl
  go_enter Try.func31, Try.ntmps31
  obtain ⟨c0, c1, c2, c3, _, _, _, _⟩ := HB.out
  go_upto_region 1 with fail
  generalize (w.alloc (.cells #[.int .i64 a, .int .i64 b, .int .i64 c, .int .i64 d] 46)).alloc (.cells #[.int .i64 0, .int .i64 0, .int .i64 0, .int .i64 0] 46) = w1 at HB HR HL c0 c1 c2 c3 ⊢
  obtain ⟨B, hB⟩ : ∃ B, w.heap.size = B := ⟨_, rfl⟩
  have HBW := hid (show w.heap.size ≤ B by omega)
  rw [hB] at HB HR c0 c1 c2 c3 ⊢
  clear hB
  go_wp2_with fail
  go_loopw [8] (fun i wr => QBox wr (B + 1) 0 0 0 0 ∧ Later w wr ∧ ((i = .int .i64 0 ∧ QBox wr B a b c d) ∨ (i = .int .i64 1 ∧ QBox wr B (md24 a) b c d) ∨ (i = .int .i64 2 ∧ QBox wr B (md24 a) (md24 b) c d) ∨ (i = .int .i64 3 ∧ QBox wr B (md24 a) (md24 b) (md24 c) d) ∨ (i = .int .i64 4 ∧ QBox wr B (md24 a) (md24 b) (md24 c) (md24 d)))) (fun i _ => 4 - (intOf i).toNat)
  case atStart => exact ⟨HR.out, HL.out, .inl ⟨rfl, HB.out⟩⟩
  case round =>
    obtain ⟨hrx, hlx, hrel⟩ := hrel
    clear HB HR HL c0 c1 c2 c3
    have HL := hid hlx
    have HR := hid hrx
    clear hlx hrx
    rcases hrel with ⟨rfl, hbx⟩ | ⟨rfl, hbx⟩ | ⟨rfl, hbx⟩ | ⟨rfl, hbx⟩ | ⟨rfl, hbx⟩
    · have HB := hid hbx
      clear hbx
      obtain ⟨c0, c1, c2, c3, f0, f1, f2, f3⟩ := HB.out
      go_wp2_with (first | (go_at_call 47; refine (remainder24 _ _).mono ?_; rintro e w2 ⟨rfl, rfl⟩))
      go_roundw
      case rel => exact ⟨HR.out.keep (heap_setCell_other _ _ _ _ (by simp)), HL.out.setCell HBW.out _, .inr (.inl ⟨rfl, HB.out.set0 (md24 a)⟩)⟩
      case measure => simp [intOf]
    · have HB := hid hbx
      clear hbx
      obtain ⟨c0, c1, c2, c3, f0, f1, f2, f3⟩ := HB.out
      go_wp2_with (first | (go_at_call 47; refine (remainder24 _ _).mono ?_; rintro e w2 ⟨rfl, rfl⟩))
      go_roundw
      case rel => exact ⟨HR.out.keep (heap_setCell_other _ _ _ _ (by simp)), HL.out.setCell HBW.out _, .inr (.inr (.inl ⟨rfl, HB.out.set1 (md24 b)⟩))⟩
      case measure => simp [intOf]
    · have HB := hid hbx
      clear hbx
      obtain ⟨c0, c1, c2, c3, f0, f1, f2, f3⟩ := HB.out
      go_wp2_with (first | (go_at_call 47; refine (remainder24 _ _).mono ?_; rintro e w2 ⟨rfl, rfl⟩))
      go_roundw
      case rel => exact ⟨HR.out.keep (heap_setCell_other _ _ _ _ (by simp)), HL.out.setCell HBW.out _, .inr (.inr (.inr (.inl ⟨rfl, HB.out.set2 (md24 c)⟩)))⟩
      case measure => simp [intOf]
    · have HB := hid hbx
      clear hbx
      obtain ⟨c0, c1, c2, c3, f0, f1, f2, f3⟩ := HB.out
      go_wp2_with (first | (go_at_call 47; refine (remainder24 _ _).mono ?_; rintro e w2 ⟨rfl, rfl⟩))
      go_roundw
      case rel => exact ⟨HR.out.keep (heap_setCell_other _ _ _ _ (by simp)), HL.out.setCell HBW.out _, .inr (.inr (.inr (.inr (⟨rfl, HB.out.set3 (md24 d)⟩))))⟩
      case measure => simp [intOf]
    · have HB := hid hbx
      clear hbx
      obtain ⟨c0, c1, c2, c3, _, _, _, _⟩ := HB.out
      obtain ⟨d0, d1, d2, d3, f0, f1, f2, f3⟩ := HR.out
      go_wp2_with fail
      have HR5 := hid (HR.out.set (md24 a) (md24 b) (md24 c) (md24 d))
      have HL5 := hid (setQ_later HL.out (show w.heap.size ≤ B + 1 by have := HBW.out; omega) (md24 a) (md24 b) (md24 c) (md24 d))
      clear c0 c1 c2 c3 d0 d1 d2 d3 f0 f1 f2 f3
      generalize ((((wr.setCell ⟨B + 1, 0, none⟩ (.int .i64 (md24 a))).setCell ⟨B + 1, 1, none⟩ (.int .i64 (md24 b))).setCell ⟨B + 1, 2, none⟩ (.int .i64 (md24 c))).setCell ⟨B + 1, 3, none⟩ (.int .i64 (md24 d))) = w5 at HR5 HL5 ⊢
      obtain ⟨d0, d1, d2, d3, _, _, _, _⟩ := HR5.out
      refine bodyPost_ret (v := .agg #[.int .i64 (md24 a), .int .i64 (md24 b), .int .i64 (md24 c), .int .i64 (md24 d)]) ?_ rfl ⟨rfl, HL5.out⟩
      rw [results_cellQ rfl]
      go_simp
end

section
open Go.RowKit

def sw24 (t : Qd4) (i : Nat) : Qd4 := qOf ((swL (qsL t) i).map md24)
def sws24 (t : Qd4) : List Qd4 := [sw24 t 0, sw24 t 1, sw24 t 2, sw24 t 3]
theorem sw24_of {a b c d p q r s : Int} {i : Nat} (h : swL [a, b, c, d] i = [p, q, r, s]) : sw24 (a, b, c, d) i = (md24 p, md24 q, md24 r, md24 s) := by
  unfold sw24
  rw [show qsL (a, b, c, d) = [a, b, c, d] from rfl, h]; rfl
/-- One element of a row of quads is written. -/
theorem OwnQs.put {lo : Nat} {w : World} {g cap : Nat} {L : List Qd4} (h : OwnQs lo w (.slice (some ⟨g, 0, none⟩) L.length cap) L) (i : Nat) (hi : i < L.length) (t : Qd4) :
    OwnQs lo ((((w.setCell ⟨g, i * 4, none⟩ (.int .i64 t.1)).setCell ⟨g, i * 4 + 1, none⟩ (.int .i64 t.2.1)).setCell ⟨g, i * 4 + 2, none⟩ (.int .i64 t.2.2.1)).setCell ⟨g, i * 4 + 3, none⟩ (.int .i64 t.2.2.2)) (.slice (some ⟨g, 0, none⟩) L.length cap) (L.set i t) := by
  have h1 := (World.ownsRow.stored h (i * 4) (.int .i64 t.1)).1
  have h2 := (World.ownsRow.stored h1 (i * 4 + 1) (.int .i64 t.2.1)).1
  have h3 := (World.ownsRow.stored h2 (i * 4 + 2) (.int .i64 t.2.2.1)).1
  have h4 := (World.ownsRow.stored h3 (i * 4 + 3) (.int .i64 t.2.2.2)).1
  have he : ((((qCells L).set (i * 4) (.int .i64 t.1)).set (i * 4 + 1) (.int .i64 t.2.1)).set (i * 4 + 2) (.int .i64 t.2.2.1)).set (i * 4 + 3) (.int .i64 t.2.2.2) = qCells (L.set i t) := by
    clear h1 h2 h3 h4 h
    induction L generalizing i with
    | nil => simp at hi
    | cons x L ih =>
      cases i with
      | zero => simp [qCells, qVs]
      | succ i =>
        have e : qCells (x :: L) = [.int .i64 x.1, .int .i64 x.2.1, .int .i64 x.2.2.1, .int .i64 x.2.2.2] ++ qCells L := by simp [qCells, qVs]
        have e2 : qCells ((x :: L).set (i + 1) t) = [.int .i64 x.1, .int .i64 x.2.1, .int .i64 x.2.2.1, .int .i64 x.2.2.2] ++ qCells (L.set i t) := by simp [qCells, qVs]
        rw [e, e2, ← ih i (by simpa using hi)]
        simp [Nat.add_mul]
  unfold OwnQs
  rw [List.length_set, ← he]
  exact h4
theorem putQ_grown (w : World) (g o : Nat) (x0 x1 x2 x3 : Value) :
    w.grownBy ((((w.setCell ⟨g, o, none⟩ x0).setCell ⟨g, o + 1, none⟩ x1).setCell ⟨g, o + 2, none⟩ x2).setCell ⟨g, o + 3, none⟩ x3) (some g) := by
  have h : Below 0 w ((((w.setCell ⟨g, o, none⟩ x0).setCell ⟨g, o + 1, none⟩ x1).setCell ⟨g, o + 2, none⟩ x2).setCell ⟨g, o + 3, none⟩ x3) :=
    Below.setCell (Below.setCell (Below.setCell (Below.setCell (Below.refl 0 w) (Nat.zero_le _) _) (Nat.zero_le _) _) (Nat.zero_le _) _) (Nat.zero_le _) _
  refine ⟨h.os, h.tape, h.output, h.size, fun i _ hne => ?_⟩
  have hi : i ≠ g := fun e => hne (by rw [e])
  rw [heap_setCell_other _ _ i _ hi, heap_setCell_other _ _ i _ hi, heap_setCell_other _ _ i _ hi, heap_setCell_other _ _ i _ hi]
def zQ : Qd4 := (0, 0, 0, 0)
theorem madeQ4 : (madeCells #[Value.int .i64 0, .int .i64 0, .int .i64 0, .int .i64 0] 16).toList = qCells [zQ, zQ, zQ, zQ] := by kernel_rfl
set_option maxRecDepth 20000 in
set_option maxHeartbeats 4000000 in
theorem swaps24_any (a b c d : Int) (w : World) (hm : Md a b c d) :
    Calls Try.prog 32 #[.agg #[.int .i64 a, .int .i64 b, .int .i64 c, .int .i64 d]] w fun e w' => ∃ v, e = .returned v ∧ OwnQs w.heap.size w' v (sws24 (a, b, c, d)) ∧ Later w w' := by
  obtain ⟨i0, hi, hz0, hz1, hz2⟩ := info_parts Try.infoQd
  have HB0 := hid hz2
  have HBX := hid (QBox.new w a b c d)
  have HL0 := hid (Later.alloc w (.cells #[.int .i64 a, .int .i64 b, .int .i64 c, .int .i64 d] 46))
  have S0 := hid (fun w0 => (show Calls Try.prog 48 #[.agg #[.int .i64 a, .int .i64 b, .int .i64 c, .int .i64 d], .int .i64 0] w0 fun e w' => QuadRes w0 (swL [a, b, c, d] 0) e w' from swapped_any a b c d 0 w0 (by omega) hm))
  have S1 := hid (fun w0 => (show Calls Try.prog 48 #[.agg #[.int .i64 a, .int .i64 b, .int .i64 c, .int .i64 d], .int .i64 1] w0 fun e w' => QuadRes w0 (swL [a, b, c, d] 1) e w' from swapped_any a b c d 1 w0 (by omega) hm))
  have S2 := hid (fun w0 => (show Calls Try.prog 48 #[.agg #[.int .i64 a, .int .i64 b, .int .i64 c, .int .i64 d], .int .i64 2] w0 fun e w' => QuadRes w0 (swL [a, b, c, d] 2) e w' from swapped_any a b c d 2 w0 (by omega) hm))
  have S3 := hid (fun w0 => (show Calls Try.prog 48 #[.agg #[.int .i64 a, .int .i64 b, .int .i64 c, .int .i64 d], .int .i64 3] w0 fun e w' => QuadRes w0 (swL [a, b, c, d] 3) e w' from swapped_any a b c d 3 w0 (by omega) hm))
  clear hm
  go_enter Try.func32, Try.ntmps32
  go_wp2_with (at_make; refine wpList_make_full _ rfl _ _ 50 rfl w.heap.size 46 i0 (.agg #[.int .i64 0, .int .i64 0, .int .i64 0, .int .i64 0]) 4 Try.underlying50 hi hz0 hz1 _ _ _ _ 4 rfl rfl rfl rfl ?b2 ?b3 ?b4 ?_)
  case b2 => rw [HB0.out]; omega
  case b3 => unfold maxLen; omega
  case b4 => simp
  intro w1 hown hgrow
  obtain ⟨g, hg⟩ : ∃ g, w.heap.size = g := ⟨_, rfl⟩
  have HBX1 := hid (HBX.out.keep (hgrow.block w.heap.size (by simp) (by simp)))
  have HL1 := hid (HL0.out.trans (show Later _ w1 from (Below.refl _ _).grown hgrow (Nat.le_refl _) (by simp)))
  have HO1 := hid (show OwnQs w.heap.size w1 (.slice (some ⟨w.heap.size + 1, 0, none⟩) 4 4) [zQ, zQ, zQ, zQ] by
    unfold OwnQs
    rw [madeQ4] at hown
    exact hown)
  rw [hg] at HBX1 HO1 ⊢
  have HGS := hid (show w.heap.size ≤ g by omega)
  clear hown hgrow HBX HL0 hi hz0 hz1 hz2
  go_wp2_with fail
  go_loopw [8] (fun i wr => QBox wr g a b c d ∧ Later w wr ∧ ((i = .int .i64 0 ∧ OwnQs g wr (.slice (some ⟨g + 1, 0, none⟩) 4 4) ([zQ, zQ, zQ, zQ])) ∨ (i = .int .i64 1 ∧ OwnQs g wr (.slice (some ⟨g + 1, 0, none⟩) 4 4) ([sw24 (a, b, c, d) 0, zQ, zQ, zQ])) ∨ (i = .int .i64 2 ∧ OwnQs g wr (.slice (some ⟨g + 1, 0, none⟩) 4 4) ([sw24 (a, b, c, d) 0, sw24 (a, b, c, d) 1, zQ, zQ])) ∨ (i = .int .i64 3 ∧ OwnQs g wr (.slice (some ⟨g + 1, 0, none⟩) 4 4) ([sw24 (a, b, c, d) 0, sw24 (a, b, c, d) 1, sw24 (a, b, c, d) 2, zQ])) ∨ (i = .int .i64 4 ∧ OwnQs g wr (.slice (some ⟨g + 1, 0, none⟩) 4 4) (sws24 (a, b, c, d))))) (fun i _ => 4 - (intOf i).toNat)
  case atStart => exact ⟨HBX1.out, HL1.out, .inl ⟨rfl, HO1.out⟩⟩
  case round =>
    obtain ⟨hbx, hlx, hrel⟩ := hrel
    clear HBX1 HL1 HO1
    have HL := hid hlx
    have HB := hid hbx
    clear hlx hbx
    rcases hrel with ⟨rfl, ho⟩ | ⟨rfl, ho⟩ | ⟨rfl, ho⟩ | ⟨rfl, ho⟩ | ⟨rfl, ho⟩
    · have HO := hid ho
      clear ho
      obtain ⟨c0, c1, c2, c3, _, _, _, _⟩ := HB.out
      go_wp2_with (first
        | (go_at_call 48; refine (S0.out _).mono ?_; rintro e w2 ⟨p, q, r, s, hs, rfl, hL2⟩; have HS := hid hs; have H2 := hid hL2; clear hs hL2)
        | (go_at_call 31; refine (moduloQ_any p q r s _).mono ?_; rintro e w3 ⟨rfl, hL3⟩
           ; have HL3 := hid (HL.out.trans (H2.out.trans hL3)); have HB3 := hid (HB.out.later (H2.out.trans hL3)); have ho3 := HO.out.later (H2.out.trans hL3)
           ; have e0 := World.ownsRow.cellAt ho3 0 (by decide); have e1 := World.ownsRow.cellAt ho3 1 (by decide); have e2 := World.ownsRow.cellAt ho3 2 (by decide); have e3 := World.ownsRow.cellAt ho3 3 (by decide)
           ; have g0 := World.ownsRow.frozenAt ho3 0; have g1 := World.ownsRow.frozenAt ho3 1; have g2 := World.ownsRow.frozenAt ho3 2; have g3 := World.ownsRow.frozenAt ho3 3
           ; simp only [qCells, qVs, zQ, List.flatMap_cons, List.flatMap_nil, List.cons_append, List.nil_append, List.getElem?_cons_succ, List.getElem?_cons_zero] at e0 e1 e2 e3
           ; have HO3 := hid ho3; clear ho3 hL3))
      have HO5 := hid (show OwnQs g ((((w3.setCell ⟨g + 1, 0, none⟩ (.int .i64 (md24 p))).setCell ⟨g + 1, 1, none⟩ (.int .i64 (md24 q))).setCell ⟨g + 1, 2, none⟩ (.int .i64 (md24 r))).setCell ⟨g + 1, 3, none⟩ (.int .i64 (md24 s))) (.slice (some ⟨g + 1, 0, none⟩) 4 4) ([sw24 (a, b, c, d) 0, zQ, zQ, zQ]) by
        rw [sw24_of HS.out]
        exact OwnQs.put HO3.out 0 (by simp) (md24 p, md24 q, md24 r, md24 s))
      have HB5 := hid (HB3.out.keep ((putQ_grown w3 (g + 1) 0 (.int .i64 (md24 p)) (.int .i64 (md24 q)) (.int .i64 (md24 r)) (.int .i64 (md24 s))).block g HB3.out.lt (fun e => by have := Option.some.inj e; omega)))
      have HL5 := hid (show Later w ((((w3.setCell ⟨g + 1, 0, none⟩ (.int .i64 (md24 p))).setCell ⟨g + 1, 1, none⟩ (.int .i64 (md24 q))).setCell ⟨g + 1, 2, none⟩ (.int .i64 (md24 r))).setCell ⟨g + 1, 3, none⟩ (.int .i64 (md24 s))) from HL3.out.grown (putQ_grown w3 (g + 1) 0 _ _ _ _) HL3.out.size (fun k e => by have := Option.some.inj e; have := HGS.out; omega))
      go_roundw
      case rel => exact ⟨HB5.out, HL5.out, .inr (.inl ⟨rfl, HO5.out⟩)⟩
      case measure => simp [intOf]
    · have HO := hid ho
      clear ho
      obtain ⟨c0, c1, c2, c3, _, _, _, _⟩ := HB.out
      go_wp2_with (first
        | (go_at_call 48; refine (S1.out _).mono ?_; rintro e w2 ⟨p, q, r, s, hs, rfl, hL2⟩; have HS := hid hs; have H2 := hid hL2; clear hs hL2)
        | (go_at_call 31; refine (moduloQ_any p q r s _).mono ?_; rintro e w3 ⟨rfl, hL3⟩
           ; have HL3 := hid (HL.out.trans (H2.out.trans hL3)); have HB3 := hid (HB.out.later (H2.out.trans hL3)); have ho3 := HO.out.later (H2.out.trans hL3)
           ; have e0 := World.ownsRow.cellAt ho3 4 (by decide); have e1 := World.ownsRow.cellAt ho3 5 (by decide); have e2 := World.ownsRow.cellAt ho3 6 (by decide); have e3 := World.ownsRow.cellAt ho3 7 (by decide)
           ; have g0 := World.ownsRow.frozenAt ho3 4; have g1 := World.ownsRow.frozenAt ho3 5; have g2 := World.ownsRow.frozenAt ho3 6; have g3 := World.ownsRow.frozenAt ho3 7
           ; simp only [qCells, qVs, zQ, List.flatMap_cons, List.flatMap_nil, List.cons_append, List.nil_append, List.getElem?_cons_succ, List.getElem?_cons_zero] at e0 e1 e2 e3
           ; have HO3 := hid ho3; clear ho3 hL3))
      have HO5 := hid (show OwnQs g ((((w3.setCell ⟨g + 1, 4, none⟩ (.int .i64 (md24 p))).setCell ⟨g + 1, 5, none⟩ (.int .i64 (md24 q))).setCell ⟨g + 1, 6, none⟩ (.int .i64 (md24 r))).setCell ⟨g + 1, 7, none⟩ (.int .i64 (md24 s))) (.slice (some ⟨g + 1, 0, none⟩) 4 4) ([sw24 (a, b, c, d) 0, sw24 (a, b, c, d) 1, zQ, zQ]) by
        rw [sw24_of HS.out]
        exact OwnQs.put HO3.out 1 (by simp) (md24 p, md24 q, md24 r, md24 s))
      have HB5 := hid (HB3.out.keep ((putQ_grown w3 (g + 1) 4 (.int .i64 (md24 p)) (.int .i64 (md24 q)) (.int .i64 (md24 r)) (.int .i64 (md24 s))).block g HB3.out.lt (fun e => by have := Option.some.inj e; omega)))
      have HL5 := hid (show Later w ((((w3.setCell ⟨g + 1, 4, none⟩ (.int .i64 (md24 p))).setCell ⟨g + 1, 5, none⟩ (.int .i64 (md24 q))).setCell ⟨g + 1, 6, none⟩ (.int .i64 (md24 r))).setCell ⟨g + 1, 7, none⟩ (.int .i64 (md24 s))) from HL3.out.grown (putQ_grown w3 (g + 1) 4 _ _ _ _) HL3.out.size (fun k e => by have := Option.some.inj e; have := HGS.out; omega))
      go_roundw
      case rel => exact ⟨HB5.out, HL5.out, .inr (.inr (.inl ⟨rfl, HO5.out⟩))⟩
      case measure => simp [intOf]
    · have HO := hid ho
      clear ho
      obtain ⟨c0, c1, c2, c3, _, _, _, _⟩ := HB.out
      go_wp2_with (first
        | (go_at_call 48; refine (S2.out _).mono ?_; rintro e w2 ⟨p, q, r, s, hs, rfl, hL2⟩; have HS := hid hs; have H2 := hid hL2; clear hs hL2)
        | (go_at_call 31; refine (moduloQ_any p q r s _).mono ?_; rintro e w3 ⟨rfl, hL3⟩
           ; have HL3 := hid (HL.out.trans (H2.out.trans hL3)); have HB3 := hid (HB.out.later (H2.out.trans hL3)); have ho3 := HO.out.later (H2.out.trans hL3)
           ; have e0 := World.ownsRow.cellAt ho3 8 (by decide); have e1 := World.ownsRow.cellAt ho3 9 (by decide); have e2 := World.ownsRow.cellAt ho3 10 (by decide); have e3 := World.ownsRow.cellAt ho3 11 (by decide)
           ; have g0 := World.ownsRow.frozenAt ho3 8; have g1 := World.ownsRow.frozenAt ho3 9; have g2 := World.ownsRow.frozenAt ho3 10; have g3 := World.ownsRow.frozenAt ho3 11
           ; simp only [qCells, qVs, zQ, List.flatMap_cons, List.flatMap_nil, List.cons_append, List.nil_append, List.getElem?_cons_succ, List.getElem?_cons_zero] at e0 e1 e2 e3
           ; have HO3 := hid ho3; clear ho3 hL3))
      have HO5 := hid (show OwnQs g ((((w3.setCell ⟨g + 1, 8, none⟩ (.int .i64 (md24 p))).setCell ⟨g + 1, 9, none⟩ (.int .i64 (md24 q))).setCell ⟨g + 1, 10, none⟩ (.int .i64 (md24 r))).setCell ⟨g + 1, 11, none⟩ (.int .i64 (md24 s))) (.slice (some ⟨g + 1, 0, none⟩) 4 4) ([sw24 (a, b, c, d) 0, sw24 (a, b, c, d) 1, sw24 (a, b, c, d) 2, zQ]) by
        rw [sw24_of HS.out]
        exact OwnQs.put HO3.out 2 (by simp) (md24 p, md24 q, md24 r, md24 s))
      have HB5 := hid (HB3.out.keep ((putQ_grown w3 (g + 1) 8 (.int .i64 (md24 p)) (.int .i64 (md24 q)) (.int .i64 (md24 r)) (.int .i64 (md24 s))).block g HB3.out.lt (fun e => by have := Option.some.inj e; omega)))
      have HL5 := hid (show Later w ((((w3.setCell ⟨g + 1, 8, none⟩ (.int .i64 (md24 p))).setCell ⟨g + 1, 9, none⟩ (.int .i64 (md24 q))).setCell ⟨g + 1, 10, none⟩ (.int .i64 (md24 r))).setCell ⟨g + 1, 11, none⟩ (.int .i64 (md24 s))) from HL3.out.grown (putQ_grown w3 (g + 1) 8 _ _ _ _) HL3.out.size (fun k e => by have := Option.some.inj e; have := HGS.out; omega))
      go_roundw
      case rel => exact ⟨HB5.out, HL5.out, .inr (.inr (.inr (.inl ⟨rfl, HO5.out⟩)))⟩
      case measure => simp [intOf]
    · have HO := hid ho
      clear ho
      obtain ⟨c0, c1, c2, c3, _, _, _, _⟩ := HB.out
      go_wp2_with (first
        | (go_at_call 48; refine (S3.out _).mono ?_; rintro e w2 ⟨p, q, r, s, hs, rfl, hL2⟩; have HS := hid hs; have H2 := hid hL2; clear hs hL2)
        | (go_at_call 31; refine (moduloQ_any p q r s _).mono ?_; rintro e w3 ⟨rfl, hL3⟩
           ; have HL3 := hid (HL.out.trans (H2.out.trans hL3)); have HB3 := hid (HB.out.later (H2.out.trans hL3)); have ho3 := HO.out.later (H2.out.trans hL3)
           ; have e0 := World.ownsRow.cellAt ho3 12 (by decide); have e1 := World.ownsRow.cellAt ho3 13 (by decide); have e2 := World.ownsRow.cellAt ho3 14 (by decide); have e3 := World.ownsRow.cellAt ho3 15 (by decide)
           ; have g0 := World.ownsRow.frozenAt ho3 12; have g1 := World.ownsRow.frozenAt ho3 13; have g2 := World.ownsRow.frozenAt ho3 14; have g3 := World.ownsRow.frozenAt ho3 15
           ; simp only [qCells, qVs, zQ, List.flatMap_cons, List.flatMap_nil, List.cons_append, List.nil_append, List.getElem?_cons_succ, List.getElem?_cons_zero] at e0 e1 e2 e3
           ; have HO3 := hid ho3; clear ho3 hL3))
      have HO5 := hid (show OwnQs g ((((w3.setCell ⟨g + 1, 12, none⟩ (.int .i64 (md24 p))).setCell ⟨g + 1, 13, none⟩ (.int .i64 (md24 q))).setCell ⟨g + 1, 14, none⟩ (.int .i64 (md24 r))).setCell ⟨g + 1, 15, none⟩ (.int .i64 (md24 s))) (.slice (some ⟨g + 1, 0, none⟩) 4 4) (sws24 (a, b, c, d)) by
        unfold sws24; rw [sw24_of HS.out]
        exact OwnQs.put HO3.out 3 (by simp) (md24 p, md24 q, md24 r, md24 s))
      have HB5 := hid (HB3.out.keep ((putQ_grown w3 (g + 1) 12 (.int .i64 (md24 p)) (.int .i64 (md24 q)) (.int .i64 (md24 r)) (.int .i64 (md24 s))).block g HB3.out.lt (fun e => by have := Option.some.inj e; omega)))
      have HL5 := hid (show Later w ((((w3.setCell ⟨g + 1, 12, none⟩ (.int .i64 (md24 p))).setCell ⟨g + 1, 13, none⟩ (.int .i64 (md24 q))).setCell ⟨g + 1, 14, none⟩ (.int .i64 (md24 r))).setCell ⟨g + 1, 15, none⟩ (.int .i64 (md24 s))) from HL3.out.grown (putQ_grown w3 (g + 1) 12 _ _ _ _) HL3.out.size (fun k e => by have := Option.some.inj e; have := HGS.out; omega))
      go_roundw
      case rel => exact ⟨HB5.out, HL5.out, .inr (.inr (.inr (.inr (⟨rfl, HO5.out⟩))))⟩
      case measure => simp [intOf]
    · have HO := hid ho
      clear ho
      go_wp2_with fail
      go_ret
      exact ⟨_, rfl, HO.out.base HGS.out, HL.out⟩
end

section
open Go.RowKit

inductive Reach24 (t0 : Qd4) : Qd4 → Prop
  | start : Reach24 t0 t0
  | step (t u : Qd4) : Reach24 t0 t → u ∈ sws24 t → Reach24 t0 u
def In24 (t : Qd4) : Prop := (0 ≤ t.1 ∧ t.1 < 24) ∧ (0 ≤ t.2.1 ∧ t.2.1 < 24) ∧ (0 ≤ t.2.2.1 ∧ t.2.2.1 < 24) ∧ (0 ≤ t.2.2.2 ∧ t.2.2.2 < 24)
theorem sw24_in (t : Qd4) (i : Nat) : In24 (sw24 t i) := by
  have hl : (swL (qsL t) i).length = 4 := by unfold swL; simp [qsL]
  obtain ⟨p, q, r, s, h⟩ : ∃ p q r s, swL (qsL t) i = [p, q, r, s] := by
    match swL (qsL t) i, hl with
    | [p, q, r, s], _ => exact ⟨p, q, r, s, rfl⟩
  unfold sw24
  rw [h]
  exact ⟨md24_in p, md24_in q, md24_in r, md24_in s⟩
theorem sws24_in {t u : Qd4} (h : u ∈ sws24 t) : In24 u := by
  unfold sws24 at h
  simp at h
  rcases h with rfl | rfl | rfl | rfl <;> exact sw24_in t _
theorem Reach24.in24 {t0 t : Qd4} (h0 : In24 t0) (h : Reach24 t0 t) : In24 t := by
  cases h with
  | start => exact h0
  | step t u _ hu => exact sws24_in hu
theorem In24.good {t : Qd4} (h : In24 t) : goodZ 4 (qsL t) := by
  obtain ⟨⟨a1, a2⟩, ⟨b1, b2⟩, ⟨c1, c2⟩, ⟨d1, d2⟩⟩ := h
  refine ⟨rfl, fun z hz => ?_⟩
  have : 0 ≤ z ∧ z < 24 := by
    simp [qsL] at hz
    rcases hz with rfl | rfl | rfl | rfl <;> omega
  exact WalkArith.wf_i64 (by omega)
theorem In24.md {t : Qd4} (h : In24 t) : Md t.1 t.2.1 t.2.2.1 t.2.2.2 := by
  obtain ⟨⟨a1, a2⟩, ⟨b1, b2⟩, ⟨c1, c2⟩, ⟨d1, d2⟩⟩ := h
  exact ⟨by omega, by omega, by omega, by omega, by omega, by omega, by omega, by omega⟩
theorem nodup_len : ∀ (n : Nat) (l : List Nat), l.Nodup → (∀ x ∈ l, x < n) → l.length ≤ n := by
  intro n
  induction n with
  | zero =>
    intro l _ h
    cases l with
    | nil => simp
    | cons x l => exact absurd (h x (by simp)) (Nat.not_lt_zero x)
  | succ n ih =>
    intro l hn h
    by_cases hm : n ∈ l
    · have h1 := ih (l.erase n) (hn.erase n) (fun x hx => by
        have := hn.mem_erase_iff.1 hx
        have := h x this.2
        omega)
      rw [List.length_erase_of_mem hm] at h1
      omega
    · have h1 := ih l hn (fun x hx => by
        have h2 := h x hx
        have : x ≠ n := fun e => hm (e ▸ hx)
        omega)
      omega
def code24 (zs : List Int) : Nat := ((((zs.getD 0 0) * 24 + zs.getD 1 0) * 24 + zs.getD 2 0) * 24 + zs.getD 3 0).toNat
theorem len24 {L : List (List Int)} (hn : L.Nodup) (h : ∀ x ∈ L, ∃ t, x = qsL t ∧ In24 t) : L.length ≤ 331776 := by
  have h1 := nodup_len 331776 (L.map code24) (by
    rw [List.Nodup, List.pairwise_map]
    refine List.Pairwise.imp_of_mem (fun {x y} hx hy hne e => hne ?_) hn
    obtain ⟨⟨a, b, c, d⟩, rfl, ⟨a1, a2⟩, ⟨b1, b2⟩, ⟨c1, c2⟩, ⟨d1, d2⟩⟩ := h x hx
    obtain ⟨⟨p, q, r, s⟩, rfl, ⟨p1, p2⟩, ⟨q1, q2⟩, ⟨r1, r2⟩, ⟨s1, s2⟩⟩ := h y hy
    simp only [code24, qsL, List.getD_cons_zero, List.getD_cons_succ] at e a1 a2 b1 b2 c1 c2 d1 d2 p1 p2 q1 q2 r1 r2 s1 s2
    simp only [qsL, List.cons.injEq, and_true]
    omega) (fun x hx => by
    obtain ⟨y, hy, rfl⟩ := List.mem_map.1 hx
    obtain ⟨⟨a, b, c, d⟩, rfl, ⟨a1, a2⟩, ⟨b1, b2⟩, ⟨c1, c2⟩, ⟨d1, d2⟩⟩ := h y hy
    simp only [code24, qsL, List.getD_cons_zero, List.getD_cons_succ] at a1 a2 b1 b2 c1 c2 d1 d2 ⊢
    omega)
  simpa using h1
/-- What the search keeps: D is done, W waits. -/
structure InvR (t0 : Qd4) (D W : List (List Int)) : Prop where
  at0 : qsL t0 ∈ D ∨ qsL t0 ∈ W
  reach : ∀ x, x ∈ D ∨ x ∈ W → ∃ t, x = qsL t ∧ Reach24 t0 t
  closed : ∀ t, qsL t ∈ D → ∀ u ∈ sws24 t, qsL u ∈ D ∨ qsL u ∈ W
  apart : ∀ x ∈ W, x ∉ D
theorem InvR.first (t0 : Qd4) : InvR t0 [] [qsL t0] :=
  ⟨.inr (by simp), fun x hx => by simp at hx; exact ⟨t0, hx, .start⟩, fun t ht => by simp at ht, fun x _ => by simp⟩
theorem setPut_new {L : List (List Int)} {zs : List Int} (h : zs ∉ L) : setPut L zs = L ++ [zs] := if_neg h
/-- What the round over the swaps of t keeps: the first k are done or wait. -/
structure InvS (t : Qd4) (D W W' : List (List Int)) (k : Nat) : Prop where
  old : ∀ x ∈ W.erase (qsL t), x ∈ W'
  from' : ∀ x ∈ W', x ∈ W.erase (qsL t) ∨ ∃ u ∈ sws24 t, x = qsL u
  has : ∀ u ∈ (sws24 t).take k, qsL u ∈ setPut D (qsL t) ∨ qsL u ∈ W'
  apart : ∀ x ∈ W', x ∉ setPut D (qsL t)
theorem InvS.first {t0 t : Qd4} {D W : List (List Int)} (h : InvR t0 D W) (hW : W.Nodup) (_ht : qsL t ∈ W) : InvS t D W (W.erase (qsL t)) 0 := by
  refine ⟨fun x hx => hx, fun x hx => .inl hx, fun u hu => by simp at hu, fun x hx hx2 => ?_⟩
  have h1 := hW.mem_erase_iff.1 hx
  rcases mem_setPut.1 hx2 with h2 | h2
  · exact h.apart x h1.2 h2
  · exact h1.1 h2
theorem InvS.skip {t : Qd4} {D W W' : List (List Int)} {k : Nat} (h : InvS t D W W' k) (hk : k < (sws24 t).length) (hd : qsL (sws24 t)[k] ∈ setPut D (qsL t)) : InvS t D W W' (k + 1) := by
  refine ⟨h.old, h.from', fun u hu => ?_, h.apart⟩
  rw [List.take_succ_eq_append_getElem hk] at hu
  rcases List.mem_append.1 hu with h1 | h1
  · exact h.has u h1
  · simp at h1; subst h1; exact .inl hd
theorem InvS.put {t : Qd4} {D W W' : List (List Int)} {k : Nat} (h : InvS t D W W' k) (hk : k < (sws24 t).length) (hd : qsL (sws24 t)[k] ∉ setPut D (qsL t)) : InvS t D W (setPut W' (qsL (sws24 t)[k])) (k + 1) := by
  refine ⟨fun x hx => mem_setPut.2 (.inl (h.old x hx)), fun x hx => ?_, fun u hu => ?_, fun x hx => ?_⟩
  · rcases mem_setPut.1 hx with h1 | h1
    · exact h.from' x h1
    · exact .inr ⟨_, List.getElem_mem hk, h1⟩
  · rw [List.take_succ_eq_append_getElem hk] at hu
    rcases List.mem_append.1 hu with h1 | h1
    · rcases h.has u h1 with h2 | h2
      · exact .inl h2
      · exact .inr (mem_setPut.2 (.inl h2))
    · simp at h1; subst h1; exact .inr (mem_setPut.2 (.inr rfl))
  · rcases mem_setPut.1 hx with h1 | h1
    · exact h.apart x h1
    · rw [h1]; exact hd
theorem InvR.next {t0 t : Qd4} {D W W' : List (List Int)} (h : InvR t0 D W) (hW : W.Nodup) (ht : qsL t ∈ W) (hs : InvS t D W W' 4) : InvR t0 (setPut D (qsL t)) W' := by
  have hrt : Reach24 t0 t := by
    obtain ⟨u, e, hu⟩ := h.reach _ (.inr ht)
    rw [qsL_inj e]; exact hu
  have hmv : ∀ x, x ∈ W → x ∈ setPut D (qsL t) ∨ x ∈ W' := fun x hx => by
    by_cases e : x = qsL t
    · exact .inl (mem_setPut.2 (.inr e))
    · exact .inr (hs.old x (hW.mem_erase_iff.2 ⟨e, hx⟩))
  refine ⟨?_, fun x hx => ?_, fun u hu v hv => ?_, hs.apart⟩
  · rcases h.at0 with h1 | h1
    · exact .inl (mem_setPut.2 (.inl h1))
    · exact hmv _ h1
  · rcases hx with hx | hx
    · rcases mem_setPut.1 hx with h1 | h1
      · exact h.reach x (.inl h1)
      · exact ⟨t, h1, hrt⟩
    · rcases hs.from' x hx with h1 | ⟨u, hu, rfl⟩
      · exact h.reach x (.inr (hW.mem_erase_iff.1 h1).2)
      · exact ⟨u, rfl, .step t u hrt hu⟩
  · rcases mem_setPut.1 hu with h1 | h1
    · rcases h.closed u h1 v hv with h2 | h2
      · exact .inl (mem_setPut.2 (.inl h2))
      · exact hmv _ h2
    · rw [qsL_inj h1] at hv
      exact hs.has v (by rw [List.take_of_length_le (by simp [sws24])]; exact hv)
theorem InvR.done {t0 : Qd4} {D : List (List Int)} (h : InvR t0 D []) (t : Qd4) : qsL t ∈ D ↔ Reach24 t0 t := by
  constructor
  · intro ht
    obtain ⟨u, e, hu⟩ := h.reach _ (.inl ht)
    rw [qsL_inj e]; exact hu
  · intro ht
    induction ht with
    | start => rcases h.at0 with h1 | h1
               · exact h1
               · simp at h1
    | step t u _ hu ih => rcases h.closed t ih u hu with h1 | h1
                          · exact h1
                          · simp at h1
end

section
open Go.RowKit Go.Maps

theorem len24D {t0 : Qd4} (h0 : In24 t0) {D W : List (List Int)} (h : InvR t0 D W) (hn : D.Nodup) : D.length ≤ 331776 :=
  len24 hn fun x hx => by obtain ⟨t, e, ht⟩ := h.reach x (.inl hx); exact ⟨t, e, ht.in24 h0⟩
theorem len24W {t0 : Qd4} (h0 : In24 t0) {D W : List (List Int)} (h : InvR t0 D W) (hn : W.Nodup) : W.length ≤ 331776 :=
  len24 hn fun x hx => by obtain ⟨t, e, ht⟩ := h.reach x (.inr hx); exact ⟨t, e, ht.in24 h0⟩
theorem OwnQs.form4 {lo : Nat} {w : World} {v : Value} {L : List Qd4} (h : OwnQs lo w v L) (h4 : L.length = 4) : ∃ b cap, v = .slice (some ⟨b, 0, none⟩) 4 cap ∧ OwnQs lo w (.slice (some ⟨b, 0, none⟩) 4 cap) L ∧ lo ≤ b ∧ b < w.heap.size := by
  rcases id h.2 with ⟨rfl, h0⟩ | ⟨b, cap, cur, rfl, hb, hg, _⟩
  · omega
  · rw [h4] at h ⊢
    exact ⟨b, cap, rfl, h, hb, (Array.getElem?_eq_some_iff.1 hg).1⟩
def cmpFn : Value := .func (.func 33) #[] #[]
def stepFn : Value := .func (.func 32) #[] #[]
theorem grownOfLater {w w' : World} (h : Later w w') : w.grownBy w' none := ⟨h.os, h.tape, h.output, h.size, fun i hi _ => h.block i hi⟩
def ReachRes (t0 : Qd4) (w : World) (e : Ending) (w' : World) : Prop :=
  ∃ v ss, e = .returned v ∧ OwnQs w.heap.size w' v (sortQd ss) ∧ Later w w' ∧ ss.Nodup ∧ ss.length ≤ 331776 ∧ ∀ t, t ∈ ss ↔ Reach24 t0 t
set_option maxRecDepth 20000 in
set_option maxHeartbeats 4000000 in
theorem reachedFromQ_any (t0 : Qd4) (w : World) (h0 : In24 t0) :
    Calls Try.prog 30 #[encQ t0, stepFn, cmpFn] w fun e w' => ReachRes t0 w e w' := by
  have HI0 := hid h0
  have hz0 : ∀ w : World, (zeroValue 4).run Try.prog w = .ok (.bool false) w := fun w => by kernel_rfl
  have hmm := @run_makeMap Try.prog
  have HX0 := hid (QBox.new w t0.1 t0.2.1 t0.2.2.1 t0.2.2.2)
  obtain ⟨wa, hwa⟩ : ∃ wa, w.alloc (.cells #[.int .i64 t0.1, .int .i64 t0.2.1, .int .i64 t0.2.2.1, .int .i64 t0.2.2.2] 46) = wa := ⟨_, rfl⟩
  have hsa : wa.heap.size = w.heap.size + 1 := by rw [← hwa]; simp
  have HLa := hid (show Later w wa by rw [← hwa]; exact Later.alloc _ _)
  unfold encQ stepFn cmpFn
  go_enter Try.func30, Try.ntmps30
  go_upto_region 2 with fail
  rw [hwa] at HX0
  have hM1 := OwnSet.made Try.prog 46 4 4 wa
  have hG1 := World.grownBy_alloc wa (.map #[] 0) none
  have hs1 : (wa.alloc (.map #[] 0)).heap.size = w.heap.size + 2 := by simp [hsa]
  have HXB := hid (HX0.out.keep (hG1.block w.heap.size (by omega) (by simp)))
  rw [hsa] at hM1
  obtain ⟨wb, hwb⟩ : ∃ wb, wa.alloc (.map #[] 0) = wb := ⟨_, rfl⟩
  rw [hwb] at hM1 hs1 HXB ⊢
  have HLb := hid (HLa.out.trans (show Later wa wb by rw [← hwb]; exact Later.alloc _ _))
  have HD1 := hid hM1
  clear hM1 hG1 hwa hwb hsa HX0 HLa h0
  have hM2 := OwnSet.made Try.prog 46 4 4 wb
  have HXC := hid (HXB.out.keep ((World.grownBy_alloc wb (.map #[] 0) none).block w.heap.size HXB.out.lt (by simp)))
  have HD2 := hid (HD1.out.kept (World.grownBy_alloc wb (.map #[] 0) none) (by simp))
  have HLc := hid (HLb.out.trans (Later.alloc wb (.map #[] 0)))
  rw [hs1] at hM2
  have HW2 := hid hM2
  clear hM2
  obtain ⟨c0, c1, c2, c3, _, _, _, _⟩ := HXC.out
  have hz4 : goodZ 4 [t0.1, t0.2.1, t0.2.2.1, t0.2.2.2] := HI0.out.good
  have HZ4 := hid hz4
  clear hz4
  go_wp2_with (refine wpList_put_set _ rfl _ _ _ 60 (.inr rfl) keyQ Try.underlying60 Try.underlying4 (w.heap.size + 2) [] rfl HW2.out (by decide) [t0.1, t0.2.1, t0.2.2.1, t0.2.2.2] rfl rfl HZ4.out ?_; intro w3 hown3 hturn3)
  have HD3 := hid (HD2.out.kept hturn3.grown (by simp))
  have HL3 := hid (HLc.out.grown hturn3.grown HLc.out.size (fun k e => by have := Option.some.inj e; omega))
  have HW3 := hid (show SetQ w3 (w.heap.size + 2) [qsL t0] from hown3)
  clear hown3 hturn3 c0 c1 c2 c3 HXB HXC HD1 HD2 HW2 HLb HLc HZ4 hs1
  obtain ⟨g, hg⟩ : ∃ g, w.heap.size = g := ⟨_, rfl⟩
  have HGS := hid (show w.heap.size ≤ g by omega)
  rw [hg] at HD3 HW3 ⊢
  clear hg
  go_loopw [9] (fun _ wr => ∃ D W, SetQ wr (g + 1) D ∧ SetQ wr (g + 2) W ∧ InvR t0 D W ∧ Later w wr) (fun _ wr => 400000 - setSize wr (g + 1))
  case atStart => exact ⟨[], [qsL t0], HD3.out, HW3.out, InvR.first t0, HL3.out⟩
  case round =>
    obtain ⟨D, W, hD, hW, hinv, hL⟩ := hrel
    clear HD3 HW3 HL3
    have HD := hid hD
    have HW := hid hW
    have HINV := hid hinv
    have HL := hid hL
    have HND := hid (len24D HI0.out hinv hD.nodup)
    have HNW := hid (len24W HI0.out hinv hW.nodup)
    clear hD hW hinv hL
    by_cases hW0 : W = []
    · subst hW0
      have HC := hid ((World.grownBy_alloc wr (.cells #[.map (some (g + 1))] 60) none))
      have HS := hid (HD.out.kept HC.out (by simp))
      have HCC := hid (show (wr.alloc (.cells #[.map (some (g + 1))] 60)).cell? ⟨wr.heap.size, 0, none⟩ = some (.map (some (g + 1))) by simp [go_sem])
      go_wp2_with (first
        | (at_len; refine wpList_len_set _ rfl _ 60 rfl Try.underlying60 (g + 2) [] rfl HW.out ?_)
        | (go_at_call 46; refine (keysQ_any (g + 1) _).mono ?_; rintro e w4 ⟨rfl, rfl⟩)
        | (go_at_call 45; refine (sortedFuncQ_any wr.heap.size (g + 1) D _ (by have := HND.out; omega) HCC.out HS.out).mono ?_; rintro e w5 ⟨v, ss, rfl, hp, ho, hl⟩))
      go_ret
      refine ⟨v, ss, rfl, ho.base (by have := HL.out.size; have := HC.out.size; omega), HL.out.trans ((Later.alloc wr _).trans hl), ?_, ?_, fun t => ?_⟩
      · have h1 : (ss.map qsL).Nodup := hp.nodup_iff.2 HD.out.nodup
        rw [List.Nodup, List.pairwise_map] at h1
        exact h1.imp (fun {a b} h e => h (by rw [e]))
      · have h1 := hp.length_eq
        rw [List.length_map] at h1
        have := HND.out
        omega
      · rw [← HINV.out.done t, ← hp.mem_iff]
        constructor
        · exact fun h => List.mem_map.2 ⟨t, h, rfl⟩
        · intro h
          obtain ⟨u, hu, e⟩ := List.mem_map.1 h
          rw [← qsL_inj e]; exact hu
    · have HNE := hid hW0
      have hpos : (0 : Int) < (W.length : Int) := by have := List.length_pos_iff.2 hW0; omega
      clear hW0
      go_wp2_with (first
        | (at_len; refine wpList_len_set _ rfl _ 60 rfl Try.underlying60 (g + 2) W rfl HW.out ?_)
        | (go_at_call 44; refine (takeOneQ_any (g + 2) W _ HW.out HNE.out).mono ?_; rintro e w1 ⟨x0, x1, x2, x3, hin, rfl, hW1, hg1⟩
           ; have HIN := hid hin; have HW1 := hid (hW1.kept (World.grownBy_alloc w1 (.cells #[.int .i64 x0, .int .i64 x1, .int .i64 x2, .int .i64 x3] 46) none) (by simp)); have HD1 := hid ((HD.out.kept hg1 (by simp)).kept (World.grownBy_alloc w1 (.cells #[.int .i64 x0, .int .i64 x1, .int .i64 x2, .int .i64 x3] 46) none) (by simp))
           ; have HG1 := hid hg1; have HX1 := hid (QBox.new w1 x0 x1 x2 x3); have HSZ := hid (show (w1.alloc (.cells #[.int .i64 x0, .int .i64 x1, .int .i64 x2, .int .i64 x3] 46)).heap.size = w1.heap.size + 1 by simp); have HGD := hid (HW.out.good _ hin); have HMD := hid (show Md x0 x1 x2 x3 by obtain ⟨t, e, ht⟩ := HINV.out.reach _ (.inr hin); obtain ⟨p, q, r, s⟩ := t; simp only [qsL, List.cons.injEq, and_true] at e; obtain ⟨rfl, rfl, rfl, rfl⟩ := e; exact (ht.in24 HI0.out).md); clear hin hW1 hg1)
        | (at_mapUpdate; refine wpList_put_set _ rfl _ _ _ 60 (.inl rfl) keyQ Try.underlying60 Try.underlying4 (g + 1) D rfl HD1.out (by have := HND.out; unfold maxLen; omega) [x0, x1, x2, x3] rfl rfl HGD.out ?_; intro w2 hown2 hturn2
           ; have hg2 := hturn2.grown; have hx2 := HX1.out.keep (hg2.block w1.heap.size (by have := HSZ.out; omega) (fun e => by have h3 := Option.some.inj e; have h4 := HG1.out.size; have h5 := HD.out.lt; omega))
           ; have cx0 := hx2.c0; have cx1 := hx2.c1; have cx2 := hx2.c2; have cx3 := hx2.c3
           ; have HD2 := hid hown2; have HW2 := hid (HW1.out.kept hg2 (by simp)); have HL2 := hid ((Later.trans (show Later w w1 from HL.out.grown HG1.out HL.out.size (fun k e => by have h3 := Option.some.inj e; have := HGS.out; omega)) (Later.alloc w1 (.cells #[.int .i64 x0, .int .i64 x1, .int .i64 x2, .int .i64 x3] 46))).grown hg2 (by have h1 := HL.out.size; have h2 := HG1.out.size; have h3 := HSZ.out; omega) (fun k e => by have h3 := Option.some.inj e; have := HGS.out; omega))
           ; clear hown2 hturn2 hg2 hx2)
        | (go_at_call 32; refine (swaps24_any x0 x1 x2 x3 w2 HMD.out).mono ?_; rintro e w4 ⟨v, rfl, ho, hl⟩
           ; obtain ⟨b, cap, rfl, ho2, hb1, hb2⟩ := ho.form4 rfl
           ; have HD4 := hid (HD2.out.kept (grownOfLater hl) (by simp)); have HW4 := hid (HW2.out.kept (grownOfLater hl) (by simp)); have HL4 := hid (Later.trans HL2.out hl); have HO4 := hid ho2; have HBG := hid (show g + 2 < b by have := HW2.out.lt; omega)
           ; clear ho ho2 hb1 hb2 hl))
      have HIS := hid (InvS.first (t := (x0, x1, x2, x3)) HINV.out HW.out.nodup HIN.out)
      obtain ⟨LS, hLS⟩ : ∃ LS, sws24 (x0, x1, x2, x3) = LS := ⟨_, rfl⟩
      have HLS := hid (show LS.length = 4 by rw [← hLS]; rfl)
      have HE := hid hLS
      rw [hLS] at HO4
      clear hLS
      go_loopw [27] (fun i wq => ∃ (k : Nat) (W' : List (List Int)), k ≤ 4 ∧ i = .int .i64 k ∧ SetQ wq (g + 1) (setPut D [x0, x1, x2, x3]) ∧ SetQ wq (g + 2) W' ∧ InvS (x0, x1, x2, x3) D W W' k ∧ Later w wq ∧ OwnQs w2.heap.size wq (.slice (some ⟨b, 0, none⟩) 4 cap) LS) (fun i _ => 4 - (intOf i).toNat)
      case atStart => exact ⟨0, W.erase [x0, x1, x2, x3], by omega, rfl, HD4.out, HW4.out, HIS.out, HL4.out, HO4.out⟩
      case round =>
        obtain ⟨k, W', hk, rfl, hD, hW, hS, hL, hO⟩ := hrel
        clear HD4 HW4 HL4 HO4 HIS
        by_cases hk4 : k < 4
        · have hkl : k < LS.length := by rw [HLS.out]; exact hk4
          have hO' : World.ownsRow wr w2.heap.size 46 4 (.slice (some ⟨b, 0, none⟩) 4 cap) 4 (qCells LS) := by
            have h := hO
            unfold OwnQs at h
            rw [HLS.out] at h
            exact h
          have hat := qCells_at LS k hkl
          have d0 := (World.ownsRow.cellAt hO' (k * 4) (by omega)).trans hat.1
          have d1 := (World.ownsRow.cellAt hO' (k * 4 + 1) (by omega)).trans hat.2.1
          have d2 := (World.ownsRow.cellAt hO' (k * 4 + 2) (by omega)).trans hat.2.2.1
          have d3 := (World.ownsRow.cellAt hO' (k * 4 + 3) (by omega)).trans hat.2.2.2
          have hin24 : In24 LS[k] := sws24_in (by rw [HE.out]; exact List.getElem_mem hkl)
          have hskip := fun hd => hS.skip (by rw [HE.out]; exact hkl) hd
          have hput := fun hd => hS.put (by rw [HE.out]; exact hkl) hd
          simp only [HE.out] at hskip hput
          obtain ⟨y, hy⟩ : ∃ y, LS[k] = y := ⟨_, rfl⟩
          rw [hy] at d0 d1 d2 d3 hin24 hskip hput
          obtain ⟨y0, y1, y2, y3⟩ := y
          simp only at d0 d1 d2 d3
          have HSK := hid hskip
          have HPU := hid hput
          have HGY := hid (show goodZ 4 [y0, y1, y2, y3] from hin24.good)
          have HDy := hid (hD.kept (World.grownBy_alloc wr (.cells #[.int .i64 y0, .int .i64 y1, .int .i64 y2, .int .i64 y3] 46) none) (by simp))
          have HWy := hid (hW.kept (World.grownBy_alloc wr (.cells #[.int .i64 y0, .int .i64 y1, .int .i64 y2, .int .i64 y3] 46) none) (by simp))
          have HLy := hid (hL.trans (Later.alloc wr (.cells #[.int .i64 y0, .int .i64 y1, .int .i64 y2, .int .i64 y3] 46)))
          have HOy := hid (show OwnQs w2.heap.size (wr.alloc (.cells #[.int .i64 y0, .int .i64 y1, .int .i64 y2, .int .i64 y3] 46)) (.slice (some ⟨b, 0, none⟩) 4 cap) LS from World.ownsRow.alloc hO _)
          have HBB := hid (show g + 2 < b from HBG.out)
          have HWL := hid (show W'.length < maxLen by
            have h1 := len24 hW.nodup (fun x hx => by
              rcases hS.from' x hx with h2 | ⟨u, hu, rfl⟩
              · obtain ⟨t, e, ht⟩ := HINV.out.reach x (.inr (HW.out.nodup.mem_erase_iff.1 h2).2)
                exact ⟨t, e, ht.in24 HI0.out⟩
              · exact ⟨u, rfl, sws24_in hu⟩)
            unfold maxLen; omega)
          clear hy hat hO' hin24 hskip hput hD hW hS hL hO hkl
          by_cases hm : [y0, y1, y2, y3] ∈ setPut D [x0, x1, x2, x3]
          · have HDEC := hid (decide_eq_true hm)
            have HM := hid hm
            clear hm
            go_wp2_with (first
        | (at_lookup; refine wpList_look_set _ rfl _ _ 60 rfl keyQ Try.underlying60 Try.underlying4 (hz0 _) (g + 1) (setPut D [x0, x1, x2, x3]) rfl HDy.out [y0, y1, y2, y3] rfl HGY.out ?_; rw [HDEC.out])
              | go_in)
            go_roundw
            case rel => exact ⟨k + 1, W', by omega, by go_num, HDy.out, HWy.out, HSK.out HM.out, HLy.out, HOy.out⟩
            case measure => simp [intOf]; omega
          · have HDEC := hid (decide_eq_false hm)
            have HM := hid hm
            clear hm
            go_wp2_with (first
        | (at_lookup; refine wpList_look_set _ rfl _ _ 60 rfl keyQ Try.underlying60 Try.underlying4 (hz0 _) (g + 1) (setPut D [x0, x1, x2, x3]) rfl HDy.out [y0, y1, y2, y3] rfl HGY.out ?_; rw [HDEC.out])
              | (at_mapUpdate; refine wpList_put_set _ rfl _ _ _ 60 (.inl rfl) keyQ Try.underlying60 Try.underlying4 (g + 2) W' rfl HWy.out HWL.out [y0, y1, y2, y3] rfl rfl HGY.out ?_; intro w6 hown6 hturn6)
              | go_in)
            have hg6 := hturn6.grown
            have HD6 := hid (HDy.out.kept hg6 (by simp))
            have HW6 := hid hown6
            have HL6 := hid (show Later w w6 from Below.grown HLy.out hg6 HLy.out.size (fun k e => by have h3 := Option.some.inj e; have := HGS.out; omega))
            have HO6 := hid (show OwnQs w2.heap.size w6 (.slice (some ⟨b, 0, none⟩) 4 cap) LS from World.ownsRow.kept HOy.out hg6 (.inr (fun e => by have h3 : b = g + 2 := Option.some.inj e; have := HBB.out; omega)))
            go_roundw
            case rel => exact ⟨k + 1, _, by omega, by go_num, HD6.out, HW6.out, HPU.out HM.out, HL6.out, HO6.out⟩
            case measure => simp [intOf]; omega
        · obtain rfl : k = 4 := by omega
          have HD5 := hid hD
          have HW5 := hid hW
          have HS5 := hid hS
          have HL5 := hid hL
          clear hD hW hS hL hO hk hk4
          go_wp2_with fail
          go_roundw
          case rel => exact ⟨_, W', HD5.out, HW5.out, HINV.out.next (t := (x0, x1, x2, x3)) HW.out.nodup HIN.out HS5.out, HL5.out⟩
          case measure =>
            rw [HD5.out.size_eq, HD.out.size_eq]
            have hn : [x0, x1, x2, x3] ∉ D := HINV.out.apart _ HIN.out
            rw [setPut_new hn, List.length_append]
            have := HND.out
            simp; omega
end

section
open Go.RowKit

def RisingI (l : List Int) : Prop := l.Pairwise (· < ·)
theorem risingI_unique : ∀ (A B : List Int), RisingI A → RisingI B → (∀ x, x ∈ A ↔ x ∈ B) → A = B
  | [], [], _, _, _ => rfl
  | [], b :: B, _, _, h => by have := (h b).2 List.mem_cons_self; cases this
  | a :: A, [], _, _, h => by have := (h a).1 List.mem_cons_self; cases this
  | a :: A, b :: B, hA, hB, h => by
    rw [RisingI, List.pairwise_cons] at hA hB
    have hab : a = b := by
      rcases List.mem_cons.1 ((h a).1 List.mem_cons_self) with e | h1
      · exact e
      · rcases List.mem_cons.1 ((h b).2 List.mem_cons_self) with e | h2
        · exact e.symm
        · exact absurd (hB.1 a h1) (by have := hA.1 b h2; omega)
    subst hab
    refine congrArg _ (risingI_unique A B hA.2 hB.2 fun x => ?_)
    have hx := h x
    simp only [List.mem_cons] at hx
    constructor
    · intro h1
      rcases hx.1 (Or.inr h1) with e | h2
      · subst e; exact absurd (hA.1 _ h1) (by omega)
      · exact h2
    · intro h1
      rcases hx.2 (Or.inr h1) with e | h2
      · subst e; exact absurd (hB.1 _ h1) (by omega)
      · exact h2
theorem getElemI_some {zs : List Int} {j : Nat} (h : j < zs.length) : zs[j]? = some (zs.toArray[j]!) := by
  simp [h]
theorem compactI_mem_aux (zs : List Int) (x : Int) : ∀ j : Nat, zs[j]? = some x → x ∈ Go.Lib.compact zs := by
  intro j
  induction j with
  | zero =>
    intro h
    have hl : 0 < zs.length := by
      rcases Nat.eq_zero_or_pos zs.length with e | e
      · rw [List.length_eq_zero_iff] at e; subst e; simp at h
      · exact e
    refine List.mem_map.2 ⟨0, List.mem_filter.2 ⟨List.mem_range.2 hl, by simp [Go.Lib.keeps]⟩, ?_⟩
    rw [getElemI_some hl, Option.some.injEq] at h
    exact h
  | succ j ih =>
    intro h
    have hl : j + 1 < zs.length := by
      rcases Nat.lt_or_ge (j + 1) zs.length with e | e
      · exact e
      · rw [List.getElem?_eq_none e] at h; cases h
    have hx := h
    rw [getElemI_some hl, Option.some.injEq] at hx
    by_cases e : zs.toArray[j + 1]! = zs.toArray[j]!
    · exact ih (by rw [getElemI_some (by omega), ← e, hx])
    · refine List.mem_map.2 ⟨j + 1, List.mem_filter.2 ⟨List.mem_range.2 hl, ?_⟩, hx⟩
      unfold Go.Lib.keeps
      exact decide_eq_true (.inr e)
theorem compactI_mem (zs : List Int) (x : Int) : x ∈ Go.Lib.compact zs ↔ x ∈ zs := by
  constructor
  · intro h
    obtain ⟨j, hj, e⟩ := List.mem_map.1 h
    have hl := List.mem_range.1 (List.mem_filter.1 hj).1
    rw [← e]
    exact List.mem_of_getElem? (getElemI_some hl)
  · intro h
    obtain ⟨j, hj⟩ := List.getElem?_of_mem h
    exact compactI_mem_aux zs x j hj
theorem compactI_rising (zs : List Int) (h : zs.Pairwise (· ≤ ·)) : RisingI (Go.Lib.compact zs) := by
  have hle : ∀ i j, i < j → j < zs.length → zs.toArray[i]! ≤ zs.toArray[j]! := by
    intro i j hij hj
    have := (List.pairwise_iff_getElem.1 h) i j (by omega) hj hij
    simpa [show i < zs.length by omega, hj] using this
  have key : ∀ m, m ≤ zs.length → RisingI (Go.Lib.compactUpTo zs.toArray m) := by
    intro m
    induction m with
    | zero => intro _; exact List.Pairwise.nil
    | succ m ih =>
      intro hm
      rw [Go.Lib.compactUpTo_succ]
      split
      · rename_i hk
        rw [RisingI, List.pairwise_append]
        refine ⟨ih (by omega), List.pairwise_singleton _ _, ?_⟩
        intro x hx y hy
        rw [List.mem_singleton] at hy
        subst hy
        obtain ⟨j, hj, e⟩ := List.mem_map.1 hx
        have hjm := List.mem_range.1 (List.mem_filter.1 hj).1
        subst e
        have hne : zs.toArray[m]! ≠ zs.toArray[m - 1]! := by
          unfold Go.Lib.keeps at hk
          rcases of_decide_eq_true hk with h0 | h0
          · omega
          · exact h0
        have h1 : zs.toArray[m - 1]! < zs.toArray[m]! := (by have := hle (m - 1) m (by omega) (by omega); omega)
        by_cases e : j = m - 1
        · subst e; exact h1
        · have h2 := hle j (m - 1) (by omega) (by omega)
          by_cases e2 : zs.toArray[j]! = zs.toArray[m - 1]!
          · rw [e2]; exact h1
          · omega
      · rw [List.append_nil]; exact ih (by omega)
  exact key _ (Nat.le_refl _)
theorem ownsRow_prefixI {w : World} {base : Nat} {e : TypeId} {g n m cap : Nat} {xs : List Value} (h : w.ownsRow base e 1 (.slice (some ⟨g, 0, none⟩) n cap) n xs) (hm : m ≤ n) :
    w.ownsRow base e 1 (.slice (some ⟨g, 0, none⟩) m cap) m (xs.take m) := by
  obtain ⟨hl, h2⟩ := h
  rw [Nat.mul_one] at hl
  refine ⟨by rw [List.length_take]; omega, ?_⟩
  rcases h2 with ⟨hn, _⟩ | ⟨g', cap', cur, hv, hbase, hb, h1, h2, h3, h4⟩
  · cases hn
  cases hv
  refine .inr ⟨g, cap, cur, rfl, hbase, hb, by omega, h2, h3, ?_⟩
  rw [Nat.mul_one] at h4 ⊢
  rw [← h4, List.take_take, Nat.min_eq_left hm]

theorem compactI_len (zs : List Int) : (Go.Lib.compact zs).length ≤ zs.length := by
  unfold Go.Lib.compact Go.Lib.compactUpTo
  rw [List.length_map]
  exact Nat.le_trans (List.length_filter_le _ _) (by simp)
/-- a row of numbers of the call's own -/
def OwnZs (lo : Nat) (w : World) (b cap : Nat) (zs : List Int) : Prop := w.ownsRow lo 3 1 (.slice (some ⟨b, 0, none⟩) zs.length cap) zs.length (zs.map (Value.int .i64))
open Go.Sort in
theorem sortZ_any {lo : Nat} (b cap : Nat) (zs : List Int) (w : World) (hn : zs.length ≤ 100000000) (h : OwnZs lo w b cap zs) :
    Calls Try.prog 34 #[.slice (some ⟨b, 0, none⟩) zs.length cap] w fun e w' => e = .returned (.tuple #[]) ∧ OwnZs lo w' b cap (zs.mergeSort fun x y => decide (x ≤ y)) ∧ w.grownBy w' (some b) := by
  rcases h.2 with ⟨hn, _⟩ | ⟨g', cap', cur, hv, hbase, hb, h1, h2, h3, h4⟩
  · cases hn
  cases hv
  have hlt : b < w.heap.size := (Array.getElem?_eq_some_iff.1 hb).1
  have hl : (zs.mergeSort fun x y => decide (x ≤ y)).length = zs.length := List.length_mergeSort _
  refine (Any.slices_Sort_int laysLays189 b 0 cap zs w (holds_of_blockI hb (by rw [Nat.mul_one] at h4; exact h4)) hlt (by omega)).mono ?_
  rintro e w' ⟨rfl, n, os, rfl⟩
  refine ⟨rfl, ?_, grownBy_sortedI _⟩
  unfold OwnZs
  rw [hl]
  exact ownsRow_sortedI hl hbase hb h1 h2 h3
open Go.Sort in
theorem compactZ_any {lo : Nat} (b cap : Nat) (zs : List Int) (w : World) (hn : zs.length ≤ 100000000) (h : OwnZs lo w b cap zs) :
    Calls Try.prog 35 #[.slice (some ⟨b, 0, none⟩) zs.length cap] w fun e w' => e = .returned (.slice (some ⟨b, 0, none⟩) (Lib.compact zs).length cap) ∧ OwnZs lo w' b cap (Lib.compact zs) ∧ w.grownBy w' (some b) := by
  rcases h.2 with ⟨hn, _⟩ | ⟨g', cap', cur, hv, hbase, hb, h1, h2, h3, h4⟩
  · cases hn
  cases hv
  have hcl := compactI_len zs
  refine (Any.slices_Compact_int laysCompI b 0 cap zs w (holds_of_blockI hb (by rw [Nat.mul_one] at h4; exact h4)) (by omega) h1).mono ?_
  rintro e w' ⟨rfl, q, rfl⟩
  have hs := ownsRow_sortedI (w := w) (n := q) (os := #[]) (ss := zs) (ts := Lib.compact zs ++ List.replicate (zs.length - (Lib.compact zs).length) 0) (by simp; omega) hbase hb h1 h2 h3
  rw [Go.Sort.grow_empty] at hs
  have hg := grownBy_sortedI (w := w) (g := b) (n := q) (os := #[]) (Lib.compact zs ++ List.replicate (zs.length - (Lib.compact zs).length) 0).toArray
  rw [Go.Sort.grow_empty] at hg
  refine ⟨rfl, ?_, hg⟩
  have hp := ownsRow_prefixI hs hcl
  rw [← List.map_take, List.take_left] at hp
  exact hp
end

section
open Go.RowKit

theorem OwnQs.formN {lo : Nat} {w : World} {v : Value} {L : List Qd4} (h : OwnQs lo w v L) (h4 : 0 < L.length) : ∃ b cap, v = .slice (some ⟨b, 0, none⟩) L.length cap ∧ OwnQs lo w (.slice (some ⟨b, 0, none⟩) L.length cap) L ∧ lo ≤ b ∧ b < w.heap.size := by
  rcases id h.2 with ⟨rfl, h0⟩ | ⟨b, cap, cur, rfl, hb, hg, _⟩
  · omega
  · exact ⟨b, cap, rfl, h, hb, (Array.getElem?_eq_some_iff.1 hg).1⟩
open Classical in
noncomputable def resL (t0 : Qd4) : List Int := ((List.range 24).map fun (n : Nat) => (n : Int)).filter fun x => decide (∃ t, Reach24 t0 t ∧ x ∈ qsL t)
theorem resL_rising (t0 : Qd4) : RisingI (resL t0) := by
  unfold resL RisingI
  refine List.Pairwise.filter _ ?_
  rw [List.pairwise_map]
  exact (List.pairwise_lt_range (n := 24)).imp (fun {a b} h => by omega)
open Classical in
theorem resL_mem {t0 : Qd4} (h0 : In24 t0) (x : Int) : x ∈ resL t0 ↔ ∃ t, Reach24 t0 t ∧ x ∈ qsL t := by
  unfold resL
  rw [List.mem_filter, decide_eq_true_iff]
  refine ⟨fun h => h.2, fun h => ⟨?_, h⟩⟩
  obtain ⟨t, ht, hx⟩ := h
  obtain ⟨⟨a1, a2⟩, ⟨b1, b2⟩, ⟨c1, c2⟩, ⟨d1, d2⟩⟩ := ht.in24 h0
  have : 0 ≤ x ∧ x < 24 := by
    simp [qsL] at hx
    rcases hx with rfl | rfl | rfl | rfl <;> omega
  exact List.mem_map.2 ⟨x.toNat, List.mem_range.2 (by omega), by omega⟩
def md4 (a b c d : Int) : Qd4 := (md24 a, md24 b, md24 c, md24 d)
theorem md4_in (a b c d : Int) : In24 (md4 a b c d) := ⟨md24_in a, md24_in b, md24_in c, md24_in d⟩
noncomputable def resAns (zs : List Int) : Option (List Int) := if apB zs = true ∧ gcdL zs = 1 then some (resL (qOf (zs.map md24))) else none
def flatQ (L : List Qd4) : List Int := L.flatMap qsL
theorem flatQ_len (L : List Qd4) : (flatQ L).length = L.length * 4 := by
  induction L with
  | nil => rfl
  | cons t L ih => simp [flatQ, qsL] at ih ⊢; omega
theorem flatQ_snoc (L : List Qd4) (t : Qd4) : flatQ (L ++ [t]) = flatQ L ++ [t.1, t.2.1, t.2.2.1, t.2.2.2] := by simp [flatQ, qsL]
/-- Whatever order they come in: the numbers of all that is reached, sorted and without repetition. -/
theorem resL_of {t0 : Qd4} (h0 : In24 t0) {ss : List Qd4} (h : ∀ t, t ∈ ss ↔ Reach24 t0 t) : Go.Lib.compact ((flatQ (sortQd ss)).mergeSort fun x y => decide (x ≤ y)) = resL t0 := by
  refine risingI_unique _ _ (compactI_rising _ ?_) (resL_rising t0) fun x => ?_
  · exact (List.pairwise_mergeSort (fun a b c h1 h2 => by simp at h1 h2 ⊢; omega) (fun a b => by simp; omega) _).imp (fun {a b} h => by simpa using h)
  · rw [compactI_mem, List.mem_mergeSort, resL_mem h0]
    unfold flatQ sortQd
    rw [List.mem_flatMap]
    constructor
    · rintro ⟨t, ht, hx⟩
      exact ⟨t, (h t).1 (List.mem_mergeSort.1 ht), hx⟩
    · rintro ⟨t, ht, hx⟩
      exact ⟨t, List.mem_mergeSort.2 ((h t).2 ht), hx⟩
theorem measZ (n k : Nat) (h : k < n) : n - ((k : Int) + 1).toNat < n - (k : Int).toNat := by omega
theorem newsQ (w : World) (y0 y1 y2 y3 : Int) : ∀ (j : Nat) (u : Value), [Value.int .i64 y0, .int .i64 y1, .int .i64 y2, .int .i64 y3][j]? = some u → (w.alloc (.cells #[.int .i64 y0, .int .i64 y1, .int .i64 y2, .int .i64 y3] 46)).cell? ((⟨w.heap.size, 0, none⟩ : Addr).add j) = some u := by
  intro j u hu
  have hj : j < 4 := by
    have := (List.getElem?_eq_some_iff.1 hu).1
    simpa using this
  have hq := QBox.new w y0 y1 y2 y3
  rw [addr_add0]
  have h4 : j = 0 ∨ j = 1 ∨ j = 2 ∨ j = 3 := by omega
  rcases h4 with rfl | rfl | rfl | rfl <;> simp only [List.getElem?_cons_zero, List.getElem?_cons_succ, Option.some.injEq] at hu <;> subst hu
  · exact hq.c0
  · exact hq.c1
  · exact hq.c2
  · exact hq.c3
set_option maxRecDepth 20000 in
set_option maxHeartbeats 4000000 in
theorem implResiduesOf_any (v : Value) (zs : List Int) (w : World) (h : Ints w v zs) :
    Calls Try.prog 12 #[v] w fun e w' => IntsAns w (resAns zs) e w' := by
  obtain ⟨p, cap, rfl, hl, _⟩ := id h
  have H := hid h
  clear h
  cases hg : apB zs
  · have HG := hid hg
    have HA := hid (show resAns zs = none by unfold resAns; rw [hg]; simp)
    clear hg
    go_enter Try.func12, Try.ntmps12
    go_wp2_with fail
    refine (quadOf_no _ zs _ HG.out H.out).mono ?_
    rintro e w1 ⟨rfl, hL⟩
    have HL := hid (hL.trans (Later.alloc w1 (.cells #[.int .i64 0, .int .i64 0, .int .i64 0, .int .i64 0] 46)))
    clear hL
    go_wp2_with fail
    go_ret2
    rw [HA.out]
    exact ⟨_, rfl, OwnInts.nothing0 _ _ _, HL.out⟩
  · have HG := hid hg
    have HAN := hid (show resAns zs = if gcdL zs = 1 then some (resL (qOf (zs.map md24))) else none by unfold resAns; rw [hg]; simp)
    obtain ⟨a, b, c, d, rfl, hq⟩ := apB_four hg
    have HQ := hid hq
    clear hg hq
    obtain ⟨G, hG⟩ : ∃ G, gcdL [a, b, c, d] = G := ⟨_, rfl⟩
    have HSC := hid (fun (w0 : World) => show Calls Try.prog 29 #[.agg #[.int .i64 a, .int .i64 b, .int .i64 c, .int .i64 d]] w0 fun e w' => e = .returned (.int .i64 G) ∧ Later w0 w' from hG ▸ scaleS_any a b c d w0 HQ.out)
    rw [hG] at HAN
    clear hG
    by_cases h1 : G = 1
    · subst h1
      have HA := hid (show resAns [a, b, c, d] = some (resL (md4 a b c d)) from HAN.out.trans (if_pos rfl))
      clear HAN
      go_enter Try.func12, Try.ntmps12
      go_wp2_with fail
      refine (quadOf_yes _ a b c d _ HG.out H.out).mono ?_
      rintro e w1 ⟨rfl, hL⟩
      obtain ⟨c0, c1, c2, c3, _, _, _, _⟩ := QBox.new w1 a b c d
      have HL := hid (hL.trans (Later.alloc w1 (.cells #[.int .i64 a, .int .i64 b, .int .i64 c, .int .i64 d] 46)))
      clear hL
      go_wp2_with fail
      refine (HSC.out _).mono ?_
      rintro e w2 ⟨rfl, hL2⟩
      have HL2 := hid (HL.out.trans hL2)
      have HB2 := hid ((QBox.new w1 a b c d).later hL2)
      clear hL2 c0 c1 c2 c3 HSC
      obtain ⟨c0, c1, c2, c3, _, _, _, _⟩ := HB2.out
      go_wp2_with (first
        | (go_at_call 31; refine (moduloQ_any a b c d _).mono ?_; rintro e w3 ⟨rfl, hL3⟩; have HL3 := hid (HL2.out.trans hL3); clear hL3)
        | (go_at_call 30; refine (reachedFromQ_any (md4 a b c d) _ (md4_in a b c d)).mono ?_; rintro e w4 ⟨v, ss, rfl, ho, hl, hnd, hle, hmem⟩
           ; have HL4 := hid (HL3.out.trans hl); have HRES := hid (resL_of (md4_in a b c d) hmem); have HPOS := hid (List.length_pos_of_mem ((hmem _).2 (.start))); have HLE := hid hle; have HSL := hid (show (sortQd ss).length = ss.length from List.length_mergeSort _)
           ; obtain ⟨M, hM⟩ : ∃ M, sortQd ss = M := ⟨_, rfl⟩; rw [hM] at ho HRES HSL; obtain ⟨n, hn⟩ : ∃ n, M.length = n := ⟨_, rfl⟩
           ; obtain ⟨B, cp, rfl, ho2, hb1, hb2⟩ := ho.formN (by have := HPOS.out; have := HSL.out; omega); rw [hn] at ho2 HSL ⊢
           ; have HO4 := hid ho2; have HN := hid hn; have HBL := hid hb2; clear ho ho2 hl hnd hle hmem hM hn hb1 hb2))
      clear c0 c1 c2 c3
      obtain ⟨i0, hi, hz0, hz1, hz2⟩ := info_parts Try.infoInt
      have HNB := hid (show n ≤ 331776 by have := HLE.out; have := HSL.out; omega)
      go_loopw [6, 25] (fun r i wr => ∃ k : Nat, k ≤ n ∧ i = .int .i64 k ∧ OwnQs w3.heap.size wr (.slice (some ⟨B, 0, none⟩) n cp) M ∧ wr.ownsRow w4.heap.size 3 1 r (k * 4) ((flatQ (M.take k)).map (Value.int .i64)) ∧ Later w wr ∧ w4.heap.size ≤ wr.heap.size) (fun _ i _ => n - (intOf i).toNat)
      case atStart => exact ⟨0, Nat.zero_le _, rfl, HO4.out, ⟨rfl, .inl ⟨rfl, rfl⟩⟩, HL4.out, Nat.le_refl _⟩
      case round =>
        obtain ⟨k, hk, rfl, hO, hR, hL, hsz⟩ := hrel
        have HLE4 := hid (show w.heap.size ≤ w4.heap.size from HL4.out.size)
        clear HO4
        by_cases hlt : k < n
        · have hkl : k < M.length := by rw [HN.out]; exact hlt
          have hO' : World.ownsRow wr w3.heap.size 46 4 (.slice (some ⟨B, 0, none⟩) n cp) n (qCells M) := by
            have h := hO
            unfold OwnQs at h
            rw [HN.out] at h
            exact h
          have hat := qCells_at M k hkl
          have d0 := (World.ownsRow.cellAt hO' (k * 4) (by omega)).trans hat.1
          have d1 := (World.ownsRow.cellAt hO' (k * 4 + 1) (by omega)).trans hat.2.1
          have d2 := (World.ownsRow.cellAt hO' (k * 4 + 2) (by omega)).trans hat.2.2.1
          have d3 := (World.ownsRow.cellAt hO' (k * 4 + 3) (by omega)).trans hat.2.2.2
          have hsn : flatQ (M.take (k + 1)) = flatQ (M.take k) ++ [M[k].1, M[k].2.1, M[k].2.2.1, M[k].2.2.2] := by rw [List.take_succ_eq_append_getElem hkl, flatQ_snoc]
          obtain ⟨y, hy⟩ : ∃ y, M[k] = y := ⟨_, rfl⟩
          rw [hy] at d0 d1 d2 d3 hsn
          obtain ⟨y0, y1, y2, y3⟩ := y
          simp only at d0 d1 d2 d3 hsn
          have HSN := hid hsn
          have HO := hid (show OwnQs w3.heap.size (wr.alloc (.cells #[.int .i64 y0, .int .i64 y1, .int .i64 y2, .int .i64 y3] 46)) (.slice (some ⟨B, 0, none⟩) n cp) M from World.ownsRow.alloc hO _)
          have HR := hid (hR.alloc (.cells #[.int .i64 y0, .int .i64 y1, .int .i64 y2, .int .i64 y3] 46))
          have HL := hid (hL.trans (Later.alloc wr (.cells #[.int .i64 y0, .int .i64 y1, .int .i64 y2, .int .i64 y3] 46)))
          have HSZ := hid (show w4.heap.size ≤ (wr.alloc (.cells #[.int .i64 y0, .int .i64 y1, .int .i64 y2, .int .i64 y3] 46)).heap.size by simp; omega)
          clear hy hat hO' hsn hO hR hL hsz hkl
          go_wp2_with (first
            | (at_builtin; refine wpList_append_own_at _ (by rfl) _ _ _ (by rfl) w4.heap.size 3 i0 (.int .i64 0) 1 8 Try.underlying29 hi hz0 hz1 hz2 rfl (by omega) u6 (k * 4) _ (by rfl) (by exact HR.out) ⟨wr.heap.size, 0, none⟩ 4 4 [.int .i64 y0, .int .i64 y1, .int .i64 y2, .int .i64 y3] (by rfl) (by rfl) (newsQ wr y0 y1 y2 y3) (by simp [Value.oneCell']) (by have := HNB.out; unfold maxLen; omega) (by have := HNB.out; omega) HSZ.out ?_; intro v' w5 hown5 hgrow5 hnil5 hloc5)
            | go_in)
          have HO5 := hid (show OwnQs w3.heap.size w5 (.slice (some ⟨B, 0, none⟩) n cp) M from World.ownsRow.kept HO.out hgrow5 (.inr (fun e => by have h1 := (HR.out.lt B e.symm).1; have := HBL.out; omega)))
          have HL5 := hid (show Later w w5 from Below.grown HL.out hgrow5 HL.out.size (fun j e => by have h1 := (HR.out.lt j e).1; have := HLE4.out; omega))
          have HS5 := hid (Nat.le_trans HSZ.out hgrow5.size)
          have HR5 := hid (show w5.ownsRow w4.heap.size 3 1 v' ((k + 1) * 4) ((flatQ (M.take (k + 1))).map (Value.int .i64)) by
            rw [HSN.out, List.map_append, show (k + 1) * 4 = k * 4 + 4 by omega]
            exact hown5)
          have hnb := HNB.out
          have hwk : wrap64 ((k : Int) + 1) = (k : Int) + 1 := IntWalk.wrap64_in _ (by omega)
          go_roundw
          case rel => exact ⟨k + 1, hlt, by rw [show ((k + 1 : Nat) : Int) = (k : Int) + 1 from by omega]; simp only [hwk], HO5.out, HR5.out, HL5.out, HS5.out⟩
          case measure =>
            rw [hwk]
            exact measZ n k hlt
        · obtain rfl : k = n := by omega
          rw [List.take_of_length_le (by rw [HN.out]; exact Nat.le_refl _)] at hR
          have hfl : (flatQ M).length = k * 4 := by rw [flatQ_len, HN.out]
          have hkp : 0 < k := by have := HPOS.out; have := HSL.out; omega
          obtain ⟨b2, cap2, rfl, hZ⟩ : ∃ b2 cap2, u6 = .slice (some ⟨b2, 0, none⟩) (k * 4) cap2 ∧ OwnZs w4.heap.size wr b2 cap2 (flatQ M) := by
            rcases id hR.2 with ⟨rfl, h0⟩ | ⟨g, cp2, cur, rfl, hh⟩
            · omega
            · refine ⟨g, cp2, rfl, ?_⟩
              unfold OwnZs
              rw [hfl]; exact hR
          have hml : ((flatQ M).mergeSort fun x y => decide (x ≤ y)).length = k * 4 := by rw [List.length_mergeSort]; exact hfl
          have HS := hid (sortZ_any b2 cap2 (flatQ M) wr (by have := HNB.out; omega) hZ)
          rw [hfl] at HS
          obtain ⟨zs2, hz2'⟩ : ∃ zs2, (flatQ M).mergeSort (fun x y => decide (x ≤ y)) = zs2 := ⟨_, rfl⟩
          rw [hz2'] at HS hml HRES
          have HC := hid (fun (w9 : World) (h9 : OwnZs w4.heap.size w9 b2 cap2 zs2) => hml ▸ compactZ_any b2 cap2 zs2 w9 (by have := HNB.out; omega) h9)
          rw [HRES.out] at HC
          have HL := hid hL
          have HB2 := hid (show w.heap.size ≤ b2 by have h1 := (hZ.lt b2 rfl).1; have := HLE4.out; omega)
          clear hO hR hL hZ hfl hml hz2' hkp
          go_wp2_with (first
            | (go_at_call 34; refine HS.out.mono ?_; rintro e w6 ⟨rfl, hz6, hg6⟩; have HC6 := hid (HC.out w6 hz6); have HL6 := hid (show Later w w6 from Below.grown HL.out hg6 HL.out.size (fun j e => by have h1 := Option.some.inj e; have := HB2.out; omega)); clear hz6 hg6)
            | (go_at_call 35; refine HC6.out.mono ?_; rintro e w7 ⟨rfl, hz7, hg7⟩))
          have HL7 := Below.grown HL6.out hg7 HL6.out.size (fun j e => by have h1 := Option.some.inj e; have := HB2.out; omega)
          go_ret2
          rw [HA.out]
          exact ⟨_, rfl, (show OwnInts w4.heap.size w7.heap.size w7 _ _ from ⟨hz7, fun k hk => (hz7.lt k hk).2⟩).wide HLE4.out (Nat.le_refl _), HL7⟩
    · have HA := hid (show resAns [a, b, c, d] = none from HAN.out.trans (if_neg h1))
      clear HAN
      have hbeq : (G == 1) = false := by simp [h1]
      go_enter Try.func12, Try.ntmps12
      go_wp2_with fail
      refine (quadOf_yes _ a b c d _ HG.out H.out).mono ?_
      rintro e w1 ⟨rfl, hL⟩
      obtain ⟨c0, c1, c2, c3, _, _, _, _⟩ := QBox.new w1 a b c d
      have HL := hid (hL.trans (Later.alloc w1 (.cells #[.int .i64 a, .int .i64 b, .int .i64 c, .int .i64 d] 46)))
      clear hL
      go_wp2_with fail
      refine (HSC.out _).mono ?_
      rintro e w2 ⟨rfl, hL2⟩
      have HL2 := hid (HL.out.trans hL2)
      clear hL2
      go_wp2_with fail
      go_ret2
      rw [HA.out]
      exact ⟨_, rfl, OwnInts.nothing0 _ _ _, HL2.out⟩
end

section
open Go.RowKit

def cd24 : List Int → Int → Int
  | [], c => c
  | x :: xs, c => cd24 xs (24 * c + x)
theorem cd24_snoc (xs : List Int) (x c : Int) : cd24 (xs ++ [x]) c = 24 * cd24 xs c + x := by
  induction xs generalizing c with
  | nil => rfl
  | cons y ys ih => exact ih _
theorem rem_in24 {x : Int} (h : 0 ≤ x ∧ x < 24) : (x.tmod 24 + 24).tmod 24 = x := by
  rw [Int.tmod_eq_emod_of_nonneg h.1, Int.tmod_eq_emod_of_nonneg (by omega)]
  omega
theorem cd24_bound (xs : List Int) (h : ∀ x ∈ xs, 0 ≤ x ∧ x < 24) (hl : xs.length ≤ 4) : 0 ≤ cd24 xs 0 ∧ cd24 xs 0 < 331776 := by
  match xs, hl with
  | [], _ => simp [cd24]
  | [a], _ => have := h a (by simp); simp [cd24]; omega
  | [a, b], _ => have := h a (by simp); have := h b (by simp); simp [cd24]; omega
  | [a, b, c], _ => have := h a (by simp); have := h b (by simp); have := h c (by simp); simp [cd24]; omega
  | [a, b, c, d], _ => have := h a (by simp); have := h b (by simp); have := h c (by simp); have := h d (by simp); simp [cd24]; omega
set_option maxRecDepth 20000 in
set_option maxHeartbeats 2000000 in
theorem apCode_any (v : Value) (zs : List Int) (w : World) (h4 : zs.length = 4) (h24 : ∀ x ∈ zs, 0 ≤ x ∧ x < 24) (h : Ints w v zs) :
    Calls Try.prog 25 #[v] w fun e w' => e = .returned (.int .i64 (cd24 zs 0)) ∧ w = w' := by
  obtain ⟨p, cap, rfl, hl, hc⟩ := h
  have HC := hid hc
  have H24 := hid h24
  have H4 := hid h4
  clear hc h24
  rw [h4] at HC ⊢
  clear h4 hl
  go_enter Try.func25, Try.ntmps25
  go_wp2_with fail
  go_loop [3, 8] (fun c i => ∃ k : Nat, k ≤ 4 ∧ i = .int .i64 k ∧ c = .int .i64 (cd24 (zs.take k) 0)) (fun _ i => 4 - (intOf i).toNat)
  case atStart => exact ⟨0, by omega, rfl, rfl⟩
  case round =>
    obtain ⟨k, hk, rfl, rfl⟩ := hrel
    by_cases hlt : k < 4
    · obtain ⟨ad, rfl, hcell⟩ := HC.out k hlt
      have hkl : k < zs.length := by rw [H4.out]; exact hlt
      rw [getD_at zs k hkl] at hcell
      have hx := H24.out zs[k] (List.getElem_mem hkl)
      have hcb := cd24_bound (zs.take k) (fun x hx => H24.out x (List.mem_of_mem_take hx)) (by rw [List.length_take]; omega)
      have hnx : cd24 (zs.take (k + 1)) 0 = 24 * cd24 (zs.take k) 0 + zs[k] := by rw [List.take_succ_eq_append_getElem hkl, cd24_snoc]
      obtain ⟨x, hxe⟩ : ∃ x, zs[k] = x := ⟨_, rfl⟩
      obtain ⟨c, hce⟩ : ∃ c, cd24 (zs.take k) 0 = c := ⟨_, rfl⟩
      rw [hxe] at hcell hx hnx
      rw [hce] at hcb hnx ⊢
      have HNX := hid hnx
      clear hxe hce hnx hkl
      have r1 : x.tmod 24 = x := by rw [Int.tmod_eq_emod_of_nonneg hx.1]; omega
      have w1 : IntKind.i64.wrap (x + 24) = x + 24 := by rw [IntWalk.i64_left]; exact IntWalk.wrap64_in _ (by omega)
      have r2 : (x + 24).tmod 24 = x := by rw [Int.tmod_eq_emod_of_nonneg (by omega)]; omega
      have w2 : IntKind.i64.wrap (24 * c) = 24 * c := by rw [IntWalk.i64_left]; exact IntWalk.wrap64_in _ (by omega)
      have w3 : IntKind.i64.wrap (24 * c + x) = 24 * c + x := by rw [IntWalk.i64_left]; exact IntWalk.wrap64_in _ (by omega)
      go_wp2_with fail
      go_round
      case rel => exact ⟨k + 1, hlt, by go_num, by rw [HNX.out]⟩
      case measure => simp [intOf]; omega
    · obtain rfl : k = 4 := by omega
      rw [List.take_of_length_le (by rw [H4.out]; exact Nat.le_refl _)]
      go_wp2_with fail
      go_ret
      exact ⟨rfl, rfl⟩
end

section
open Go.RowKit

def putZk (L : List Int) (x : Int) : Nat := (L.takeWhile fun y => decide (y < x)).length
def putZ (L : List Int) (x : Int) : List Int := if L.getD (putZk L x) 0 = x ∧ putZk L x < L.length then L else L.take (putZk L x) ++ x :: L.drop (putZk L x)
theorem putZk_le (L : List Int) (x : Int) : putZk L x ≤ L.length := (List.takeWhile_sublist _).length_le
theorem putZk_lt {L : List Int} {x : Int} : ∀ k, k < putZk L x → L.getD k 0 < x := by
  induction L with
  | nil => intro k h; simp [putZk] at h
  | cons y L ih =>
    intro k h
    by_cases hy : y < x
    · cases k with
      | zero => simpa using hy
      | succ k =>
        have h2 : k < putZk L x := by simpa [putZk, hy] using h
        simpa using ih k h2
    · simp [putZk, hy] at h
theorem putZk_at {L : List Int} {x : Int} (h : putZk L x < L.length) : ¬ L.getD (putZk L x) 0 < x := by
  induction L with
  | nil => simp at h
  | cons y L ih =>
    by_cases hy : y < x
    · have e : putZk (y :: L) x = putZk L x + 1 := by simp [putZk, hy]
      rw [e] at h ⊢
      simpa using ih (by simpa using h)
    · have e : putZk (y :: L) x = 0 := by simp [putZk, hy]
      rw [e]
      simpa using hy
theorem putZ_nil (x : Int) : putZ [] x = [x] := by simp [putZ, putZk]
/-- what the model's insertion hands back -/
def PutRes (lo : Nat) (w : World) (L : List Int) (x : Int) (e : Ending) (w' : World) : Prop :=
  ∃ u, e = .returned u ∧ w'.ownsRow lo 3 1 u (putZ L x).length ((putZ L x).map (Value.int .i64)) ∧ Later w w'
set_option maxRecDepth 20000 in
set_option maxHeartbeats 4000000 in
theorem l1PutNil_any (lo : Nat) (x : Int) (w : World) (hlo : lo ≤ w.heap.size) :
    Calls Try.prog 26 #[.slice none 0 0, .int .i64 x] w fun e w' => PutRes lo w [] x e w' := by
  obtain ⟨i0, hi, hz0, hz1, hz2⟩ := info_parts Try.infoInt
  have HLO := hid hlo
  clear hlo
  have HOW := hid (show (w.alloc (.cells #[] 3)).ownsRow w.heap.size 3 1 (.slice (some ⟨w.heap.size, 0, none⟩) 0 0) 0 [] from ⟨rfl, .inr ⟨w.heap.size, 0, #[], rfl, Nat.le_refl _, heap_alloc_new w _, Nat.le_refl _, by omega, by simp, by simp⟩⟩)
  have HL1 := hid (Later.alloc w (.cells #[] 3))
  have HNW := hid (show ∀ (j : Nat) (u : Value), [Value.int .i64 x][j]? = some u → ((w.alloc (.cells #[] 3)).alloc (.cells #[.int .i64 x] 3)).cell? ((⟨w.heap.size + 1, 0, none⟩ : Addr).add j) = some u by
    intro j u hj
    have h := cell_one_new (w.alloc (.cells #[] 3)) (.int .i64 x) 3 j u hj
    simpa using h)
  go_enter Try.func26, Try.ntmps26
  go_wp2_with fail
  go_loopw [5] (fun k wr => k = .int .i64 0 ∧ wr = w) (fun _ _ => 0)
  case atStart => exact ⟨rfl, rfl⟩
  case round =>
    obtain ⟨rfl, rfl⟩ := hrel
    go_wp2_with (first
      | (at_builtin; refine wpList_append_own_none (by rfl) _ _ _ (by rfl) wr.heap.size 3 i0 1 Try.underlying29 hi (.slice (some ⟨wr.heap.size, 0, none⟩) 0 0) 0 [] (by rfl) (by exact HOW.out) (by rfl) ?_)
      | (at_builtin; refine wpList_append_own_at _ (by rfl) _ _ _ (by rfl) wr.heap.size 3 i0 (.int .i64 0) 1 8 Try.underlying29 hi hz0 hz1 hz2 rfl (by omega) (.slice (some ⟨wr.heap.size, 0, none⟩) 0 0) 0 [] (by rfl) (by exact HOW.out.alloc (.cells #[.int .i64 x] 3)) ⟨wr.heap.size + 1, 0, none⟩ 1 1 [.int .i64 x] (by rfl) (by rfl) (by exact HNW.out) (by simp [Value.oneCell']) (by unfold maxLen; omega) (by omega) (by simp; omega) ?_; intro v6 w6 hown6 hgrow6 _ _; have HO6 := hid hown6; have HG6 := hid hgrow6; clear hown6 hgrow6)
      | (at_builtin; refine wpList_append_own_none (by rfl) _ _ _ (by rfl) wr.heap.size 3 i0 1 Try.underlying29 hi v6 _ _ (by rfl) HO6.out (by rfl) ?_)
      | go_in)
    go_ret
    refine ⟨_, rfl, ?_, ?_⟩
    · rw [putZ_nil]
      exact World.ownsRow.mono HO6.out HLO.out
    · exact Below.grown (HL1.out.trans (Later.alloc _ _)) HG6.out (by simp; omega) (fun k e => Nat.le_of_eq (Option.some.inj e))
set_option maxRecDepth 20000 in
set_option maxHeartbeats 8000000 in
theorem l1Put_any (lo : Nat) (v : Value) (L : List Int) (x : Int) (w : World) (hlo : lo ≤ w.heap.size) (hb : L.length ≤ 1000000) (h : w.ownsRow lo 3 1 v L.length (L.map (Value.int .i64))) :
    Calls Try.prog 26 #[v, .int .i64 x] w fun e w' => PutRes lo w L x e w' := by
  obtain ⟨i0, hi, hz0, hz1, hz2⟩ := info_parts Try.infoInt
  rcases id h.2 with ⟨rfl, h0⟩ | ⟨g, cg, cur, rfl, _, hgl, hncg, _⟩
  · have hL : L = [] := List.eq_nil_of_length_eq_zero h0
    subst hL
    exact l1PutNil_any lo x w hlo
  · obtain ⟨n, hn⟩ : ∃ n, L.length = n := ⟨_, rfl⟩
    rw [hn] at h hncg hb ⊢
    have HN := hid hn
    have HLO := hid hlo
    have HOW := hid h
    have HC := hid (show ∀ j, j < n → w.cell? ⟨g, j, none⟩ = some (.int .i64 (L.getD j 0)) from fun j hj => by
      rw [World.ownsRow.cellAt h j (by omega)]
      have : j < L.length := by omega
      simp [this])
    have HKL := hid (fun k (hk : k < putZk L x) => putZk_lt (L := L) (x := x) k hk)
    have HKA := hid (fun (hk : putZk L x < n) => putZk_at (L := L) (x := x) (by omega))
    have hkl : putZk L x ≤ n := by have := putZk_le L x; omega
    have HPZ := hid (show putZ L x = if L.getD (putZk L x) 0 = x ∧ putZk L x < n then L else L.take (putZk L x) ++ x :: L.drop (putZk L x) by unfold putZ; rw [hn])
    obtain ⟨K, hK⟩ : ∃ K, putZk L x = K := ⟨_, rfl⟩
    rw [hK] at HKL HKA hkl HPZ
    clear h hlo hn hK hgl
    go_enter Try.func26, Try.ntmps26
    go_wp2_with fail
    go_loopw [5] (fun s5 wr => ∃ k : Nat, k ≤ K ∧ s5 = .int .i64 k ∧ wr = w) (fun s5 _ => K - (intOf s5).toNat)
    case atStart => exact ⟨0, Nat.zero_le _, rfl, rfl⟩
    case round =>
      obtain ⟨k, hk, rfl, rfl⟩ := hrel
      by_cases hlt : k < K
      · have hkI : (k : Int) < (n : Int) := by omega
        have hcell := HC.out k (by omega)
        have hb2 := HKL.out k hlt
        obtain ⟨y, hy⟩ : ∃ y, L.getD k 0 = y := ⟨_, rfl⟩
        rw [hy] at hcell hb2
        clear hy
        go_wp2_with fail
        go_roundw
        case rel => exact ⟨k + 1, hlt, by go_num, trivial⟩
        case measure => simp [intOf]; omega
      · obtain rfl : k = K := by omega
        clear hk hlt
        by_cases hkn : k < n
        · have hkI : (k : Int) < (n : Int) := by omega
          have hcell := HC.out k hkn
          have hb2 := HKA.out hkn
          obtain ⟨y, hy⟩ : ∃ y, L.getD k 0 = y := ⟨_, rfl⟩
          rw [hy] at hcell hb2 HPZ
          clear hy
          by_cases hyx : y = x
          · have hbeq : (y == x) = true := by simp [hyx]
            have HE := hid (show putZ L x = L from HPZ.out.trans (if_pos ⟨hyx, hkn⟩))
            clear hyx
            go_wp2_with fail
            go_ret
            refine ⟨_, rfl, ?_, Later.refl _⟩
            rw [HE.out, HN.out]
            exact HOW.out
          · have hbeq : (y == x) = false := by simp [hyx]
            have HE := hid (show putZ L x = L.take k ++ x :: L.drop k from HPZ.out.trans (if_neg (fun hh => hyx hh.1)))
            clear hyx
            have HO1 := hid (show (wr.alloc (.cells #[] 3)).ownsRow wr.heap.size 3 1 (.slice (some ⟨wr.heap.size, 0, none⟩) 0 0) 0 [] from ⟨rfl, .inr ⟨wr.heap.size, 0, #[], rfl, Nat.le_refl _, heap_alloc_new wr _, Nat.le_refl _, by omega, by simp, by simp⟩⟩)
            have HL1 := hid (Later.alloc wr (.cells #[] 3))
            obtain ⟨XS, hXS⟩ : ∃ XS, (L.take k).map (Value.int .i64) = XS := ⟨_, rfl⟩
            obtain ⟨YS, hYS⟩ : ∃ YS, (L.drop k).map (Value.int .i64) = YS := ⟨_, rfl⟩
            have HXL := hid (show XS.length = k * 1 by rw [← hXS, List.length_map, List.length_take, HN.out]; omega)
            have HYL := hid (show YS.length = (n - k) * 1 by rw [← hYS, List.length_map, List.length_drop, HN.out]; omega)
            have HXO := hid (show ∀ u ∈ XS, u.oneCell' = true by intro u hu; rw [← hXS] at hu; obtain ⟨p, _, rfl⟩ := List.mem_map.1 hu; rfl)
            have HYO := hid (show ∀ u ∈ YS, u.oneCell' = true by intro u hu; rw [← hYS] at hu; obtain ⟨p, _, rfl⟩ := List.mem_map.1 hu; rfl)
            have hat : ∀ (j : Nat) (u : Value), (L.map (Value.int .i64))[j]? = some u → wr.cell? ⟨g, j, none⟩ = some u := by
              intro j u hj
              have hj2 : j < L.length := by
                rcases Nat.lt_or_ge j L.length with h | h
                · exact h
                · rw [List.getElem?_eq_none (by simpa using h)] at hj; cases hj
              rw [HC.out j (by rw [← HN.out]; exact hj2), ← hj]
              simp [hj2]
            have HNX := hid (show ∀ (j : Nat) (u : Value), XS[j]? = some u → (wr.alloc (.cells #[] 3)).cell? ((⟨g, 0, none⟩ : Addr).add j) = some u from fun j u hj => by
              rw [addr_add0]
              refine (Later.alloc wr _).cell (hat j u ?_)
              rw [← hXS, List.map_take, List.getElem?_take] at hj
              split at hj
              · exact hj
              · cases hj)
            have HFIN := hid (show (putZ L x).map (Value.int .i64) = XS ++ [.int .i64 x] ++ YS by rw [HE.out, ← hXS, ← hYS]; simp)
            have HFL := hid (show (putZ L x).length = k + 1 + (n - k) by rw [HE.out, List.length_append, List.length_cons, List.length_take, List.length_drop, HN.out]; omega)
            have hkc : (k : Int) ≤ (cg : Int) := by omega
            have hkp : (k : Int) ≤ (n : Int) := by omega
            have hpc : (n : Int) ≤ (cg : Int) := by omega
            have hk0 : (0 : Int) ≤ (k : Int) := by omega
            have hktn : ((k : Int)).toNat = k := by omega
            have HBN := hid hb
            by_cases hcq : cg = k
            · exact absurd hcq (by omega)
            · have HNY := hid (show ∀ (t : Nat) (u : Value), YS[t]? = some u → wr.cell? ((⟨g, k, none⟩ : Addr).add t) = some u from fun t u ht => by
                have h1 := hat (k + t) u (by rw [← hYS] at ht; rw [← ht]; simp)
                rw [← h1]
                congr 1
                unfold Addr.add
                by_cases h0 : t = 0 <;> simp [h0])
              clear hat hXS hYS
              go_wp2_with (first
                | (at_builtin; refine wpList_append_own_at _ (by rfl) _ _ _ (by rfl) wr.heap.size 3 i0 (.int .i64 0) 1 8 Try.underlying29 hi hz0 hz1 hz2 rfl (by omega) (.slice (some ⟨wr.heap.size, 0, none⟩) 0 0) 0 [] (by rfl) (by exact HO1.out) ⟨g, 0, none⟩ k cg XS (by rfl) (by exact HXL.out) HNX.out (fun u hu => HXO.out u hu) (by have := HBN.out; unfold maxLen; omega) (by have := HBN.out; omega) (by simp) ?_; intro v6 w6 hown6 hgrow6 _ _
                   ; have HO6 := hid (show w6.ownsRow wr.heap.size 3 1 v6 k XS by simpa using hown6); have HL6 := hid (show Later wr w6 from Below.grown HL1.out hgrow6 (by simp) (fun k e => Nat.le_of_eq (Option.some.inj e))); clear hown6 hgrow6)
                | (at_builtin; refine wpList_append_own_at _ (by rfl) _ _ _ (by rfl) wr.heap.size 3 i0 (.int .i64 0) 1 8 Try.underlying29 hi hz0 hz1 hz2 rfl (by omega) v6 k XS (by rfl) (by exact HO6.out.alloc (.cells #[.int .i64 x] 3)) ⟨w6.heap.size, 0, none⟩ 1 1 [.int .i64 x] (by rfl) (by rfl) (cell_one_new _ _ _) (by simp [Value.oneCell']) (by have := HBN.out; unfold maxLen; omega) (by have := HBN.out; omega) (by have := HL6.out.size; simp; omega) ?_; intro v7 w7 hown7 hgrow7 _ _
                   ; have HO7 := hid hown7; have HL7 := hid (show Later wr w7 from Below.grown (HL6.out.trans (Later.alloc w6 (.cells #[.int .i64 x] 3))) hgrow7 (by have := HL6.out.size; simp; omega) (fun k e => (HO6.out.lt k e).1)); clear hown7 hgrow7)
                | (at_builtin; refine wpList_append_own_at _ (by rfl) _ _ _ (by rfl) wr.heap.size 3 i0 (.int .i64 0) 1 8 Try.underlying29 hi hz0 hz1 hz2 rfl (by omega) v7 (k + 1) (XS ++ [.int .i64 x]) (by rfl) (by exact HO7.out) ⟨g, k, none⟩ (n - k) (cg - k) YS (by rfl) (by exact HYL.out) (fun t u ht => HL7.out.cell (HNY.out t u ht)) (fun u hu => HYO.out u hu) (by have := HBN.out; unfold maxLen; omega) (by have := HBN.out; omega) HL7.out.size ?_; intro v8 w8 hown8 hgrow8 _ _
                   ; have HO8 := hid hown8; have HL8 := hid (show Later wr w8 from Below.grown HL7.out hgrow8 HL7.out.size (fun k e => (HO7.out.lt k e).1)); clear hown8 hgrow8)
                | go_in)
              go_ret
              refine ⟨_, rfl, ?_, HL8.out⟩
              rw [HFL.out, HFIN.out]
              exact World.ownsRow.mono HO8.out HLO.out
        · have hkI : ¬ (k : Int) < (n : Int) := by omega
          have HE := hid (show putZ L x = L.take k ++ x :: L.drop k from HPZ.out.trans (if_neg (fun hh => absurd hh.2 (by omega))))
          have HO1 := hid (show (wr.alloc (.cells #[] 3)).ownsRow wr.heap.size 3 1 (.slice (some ⟨wr.heap.size, 0, none⟩) 0 0) 0 [] from ⟨rfl, .inr ⟨wr.heap.size, 0, #[], rfl, Nat.le_refl _, heap_alloc_new wr _, Nat.le_refl _, by omega, by simp, by simp⟩⟩)
          have HL1 := hid (Later.alloc wr (.cells #[] 3))
          obtain ⟨XS, hXS⟩ : ∃ XS, (L.take k).map (Value.int .i64) = XS := ⟨_, rfl⟩
          obtain ⟨YS, hYS⟩ : ∃ YS, (L.drop k).map (Value.int .i64) = YS := ⟨_, rfl⟩
          have HXL := hid (show XS.length = k * 1 by rw [← hXS, List.length_map, List.length_take, HN.out]; omega)
          have HYL := hid (show YS.length = (n - k) * 1 by rw [← hYS, List.length_map, List.length_drop, HN.out]; omega)
          have HXO := hid (show ∀ u ∈ XS, u.oneCell' = true by intro u hu; rw [← hXS] at hu; obtain ⟨p, _, rfl⟩ := List.mem_map.1 hu; rfl)
          have HYO := hid (show ∀ u ∈ YS, u.oneCell' = true by intro u hu; rw [← hYS] at hu; obtain ⟨p, _, rfl⟩ := List.mem_map.1 hu; rfl)
          have hat : ∀ (j : Nat) (u : Value), (L.map (Value.int .i64))[j]? = some u → wr.cell? ⟨g, j, none⟩ = some u := by
            intro j u hj
            have hj2 : j < L.length := by
              rcases Nat.lt_or_ge j L.length with h | h
              · exact h
              · rw [List.getElem?_eq_none (by simpa using h)] at hj; cases hj
            rw [HC.out j (by rw [← HN.out]; exact hj2), ← hj]
            simp [hj2]
          have HNX := hid (show ∀ (j : Nat) (u : Value), XS[j]? = some u → (wr.alloc (.cells #[] 3)).cell? ((⟨g, 0, none⟩ : Addr).add j) = some u from fun j u hj => by
            rw [addr_add0]
            refine (Later.alloc wr _).cell (hat j u ?_)
            rw [← hXS, List.map_take, List.getElem?_take] at hj
            split at hj
            · exact hj
            · cases hj)
          have HFIN := hid (show (putZ L x).map (Value.int .i64) = XS ++ [.int .i64 x] ++ YS by rw [HE.out, ← hXS, ← hYS]; simp)
          have HFL := hid (show (putZ L x).length = k + 1 + (n - k) by rw [HE.out, List.length_append, List.length_cons, List.length_take, List.length_drop, HN.out]; omega)
          have hkc : (k : Int) ≤ (cg : Int) := by omega
          have hkp : (k : Int) ≤ (n : Int) := by omega
          have hpc : (n : Int) ≤ (cg : Int) := by omega
          have hk0 : (0 : Int) ≤ (k : Int) := by omega
          have hktn : ((k : Int)).toNat = k := by omega
          have HBN := hid hb
          by_cases hcq : cg = k
          · have HNY := hid (show ∀ (t : Nat) (u : Value), YS[t]? = some u → wr.cell? ((⟨g, 0, none⟩ : Addr).add t) = some u from fun t u ht => by
              rw [List.getElem?_eq_none (by have := HYL.out; omega)] at ht; cases ht)
            clear hat hXS hYS
            subst hcq
            have HN0 := hid (show n - cg = 0 by omega)
            have HY0 := hid (show YS = [] from List.eq_nil_of_length_eq_zero (by have := HYL.out; omega))
            go_wp2_with (first
              | (at_builtin; refine wpList_append_own_at _ (by rfl) _ _ _ (by rfl) wr.heap.size 3 i0 (.int .i64 0) 1 8 Try.underlying29 hi hz0 hz1 hz2 rfl (by omega) (.slice (some ⟨wr.heap.size, 0, none⟩) 0 0) 0 [] (by rfl) (by exact HO1.out) ⟨g, 0, none⟩ cg cg XS (by rfl) (by exact HXL.out) HNX.out (fun u hu => HXO.out u hu) (by have := HBN.out; unfold maxLen; omega) (by have := HBN.out; omega) (by simp) ?_; intro v6 w6 hown6 hgrow6 _ _
                 ; have HO6 := hid (show w6.ownsRow wr.heap.size 3 1 v6 cg XS by simpa using hown6); have HL6 := hid (show Later wr w6 from Below.grown HL1.out hgrow6 (by simp) (fun k e => Nat.le_of_eq (Option.some.inj e))); clear hown6 hgrow6)
              | (at_builtin; refine wpList_append_own_at _ (by rfl) _ _ _ (by rfl) wr.heap.size 3 i0 (.int .i64 0) 1 8 Try.underlying29 hi hz0 hz1 hz2 rfl (by omega) v6 cg XS (by rfl) (by exact HO6.out.alloc (.cells #[.int .i64 x] 3)) ⟨w6.heap.size, 0, none⟩ 1 1 [.int .i64 x] (by rfl) (by rfl) (cell_one_new _ _ _) (by simp [Value.oneCell']) (by have := HBN.out; unfold maxLen; omega) (by have := HBN.out; omega) (by have := HL6.out.size; simp; omega) ?_; intro v7 w7 hown7 hgrow7 _ _
                 ; have HO7 := hid hown7; have HL7 := hid (show Later wr w7 from Below.grown (HL6.out.trans (Later.alloc w6 (.cells #[.int .i64 x] 3))) hgrow7 (by have := HL6.out.size; simp; omega) (fun k e => (HO6.out.lt k e).1)); clear hown7 hgrow7)
              | (at_builtin; refine wpList_append_own_at _ (by rfl) _ _ _ (by rfl) wr.heap.size 3 i0 (.int .i64 0) 1 8 Try.underlying29 hi hz0 hz1 hz2 rfl (by omega) v7 (cg + 1) (XS ++ [.int .i64 x]) (by rfl) (by exact HO7.out) ⟨g, 0, none⟩ 0 _ [] (by rfl) (by rfl) (fun t u ht => by simp at ht) (fun u hu => by simp at hu) (by have := HBN.out; unfold maxLen; omega) (by have := HBN.out; omega) HL7.out.size ?_; intro v8 w8 hown8 hgrow8 _ _
                 ; have HO8 := hid hown8; have HL8 := hid (show Later wr w8 from Below.grown HL7.out hgrow8 HL7.out.size (fun k e => (HO7.out.lt k e).1)); clear hown8 hgrow8)
              | go_in)
            go_ret
            refine ⟨_, rfl, ?_, HL8.out⟩
            rw [HFL.out, HFIN.out, HN0.out, HY0.out]
            exact World.ownsRow.mono HO8.out HLO.out
          · have HNY := hid (show ∀ (t : Nat) (u : Value), YS[t]? = some u → wr.cell? ((⟨g, k, none⟩ : Addr).add t) = some u from fun t u ht => by
              have h1 := hat (k + t) u (by rw [← hYS] at ht; rw [← ht]; simp)
              rw [← h1]
              congr 1
              unfold Addr.add
              by_cases h0 : t = 0 <;> simp [h0])
            clear hat hXS hYS
            go_wp2_with (first
              | (at_builtin; refine wpList_append_own_at _ (by rfl) _ _ _ (by rfl) wr.heap.size 3 i0 (.int .i64 0) 1 8 Try.underlying29 hi hz0 hz1 hz2 rfl (by omega) (.slice (some ⟨wr.heap.size, 0, none⟩) 0 0) 0 [] (by rfl) (by exact HO1.out) ⟨g, 0, none⟩ k cg XS (by rfl) (by exact HXL.out) HNX.out (fun u hu => HXO.out u hu) (by have := HBN.out; unfold maxLen; omega) (by have := HBN.out; omega) (by simp) ?_; intro v6 w6 hown6 hgrow6 _ _
                 ; have HO6 := hid (show w6.ownsRow wr.heap.size 3 1 v6 k XS by simpa using hown6); have HL6 := hid (show Later wr w6 from Below.grown HL1.out hgrow6 (by simp) (fun k e => Nat.le_of_eq (Option.some.inj e))); clear hown6 hgrow6)
              | (at_builtin; refine wpList_append_own_at _ (by rfl) _ _ _ (by rfl) wr.heap.size 3 i0 (.int .i64 0) 1 8 Try.underlying29 hi hz0 hz1 hz2 rfl (by omega) v6 k XS (by rfl) (by exact HO6.out.alloc (.cells #[.int .i64 x] 3)) ⟨w6.heap.size, 0, none⟩ 1 1 [.int .i64 x] (by rfl) (by rfl) (cell_one_new _ _ _) (by simp [Value.oneCell']) (by have := HBN.out; unfold maxLen; omega) (by have := HBN.out; omega) (by have := HL6.out.size; simp; omega) ?_; intro v7 w7 hown7 hgrow7 _ _
                 ; have HO7 := hid hown7; have HL7 := hid (show Later wr w7 from Below.grown (HL6.out.trans (Later.alloc w6 (.cells #[.int .i64 x] 3))) hgrow7 (by have := HL6.out.size; simp; omega) (fun k e => (HO6.out.lt k e).1)); clear hown7 hgrow7)
              | (at_builtin; refine wpList_append_own_at _ (by rfl) _ _ _ (by rfl) wr.heap.size 3 i0 (.int .i64 0) 1 8 Try.underlying29 hi hz0 hz1 hz2 rfl (by omega) v7 (k + 1) (XS ++ [.int .i64 x]) (by rfl) (by exact HO7.out) ⟨g, k, none⟩ (n - k) (cg - k) YS (by rfl) (by exact HYL.out) (fun t u ht => HL7.out.cell (HNY.out t u ht)) (fun u hu => HYO.out u hu) (by have := HBN.out; unfold maxLen; omega) (by have := HBN.out; omega) HL7.out.size ?_; intro v8 w8 hown8 hgrow8 _ _
                 ; have HO8 := hid hown8; have HL8 := hid (show Later wr w8 from Below.grown HL7.out hgrow8 HL7.out.size (fun k e => (HO7.out.lt k e).1)); clear hown8 hgrow8)
              | go_in)
            go_ret
            refine ⟨_, rfl, ?_, HL8.out⟩
            rw [HFL.out, HFIN.out]
            exact World.ownsRow.mono HO8.out HLO.out
end

section
open Go.RowKit

theorem putZ_mem {L : List Int} {x y : Int} : y ∈ putZ L x ↔ y ∈ L ∨ y = x := by
  unfold putZ
  split
  · rename_i h
    constructor
    · exact Or.inl
    · rintro (h1 | rfl)
      · exact h1
      · have h3 := getD_at L (putZk L y) h.2
        have h4 := List.getElem_mem h.2
        rw [← h3, h.1] at h4
        exact h4
  · constructor
    · intro h
      rcases List.mem_append.1 h with h1 | h1
      · exact .inl (List.mem_of_mem_take h1)
      · rcases List.mem_cons.1 h1 with rfl | h2
        · exact .inr rfl
        · exact .inl (List.mem_of_mem_drop h2)
    · rintro (h | rfl)
      · rw [← List.take_append_drop (putZk L x) L] at h
        rcases List.mem_append.1 h with h1 | h1
        · exact List.mem_append.2 (.inl h1)
        · exact List.mem_append.2 (.inr (List.mem_cons_of_mem _ h1))
      · exact List.mem_append.2 (.inr List.mem_cons_self)
theorem putZ_rising {L : List Int} {x : Int} (h : RisingI L) : RisingI (putZ L x) := by
  unfold putZ
  split
  · exact h
  · rename_i hn
    have h1 : RisingI (L.take (putZk L x)) := h.sublist (List.take_sublist _ _)
    have h2 : RisingI (L.drop (putZk L x)) := h.sublist (List.drop_sublist _ _)
    have hlt : ∀ y ∈ L.take (putZk L x), y < x := fun y hy => by
      obtain ⟨i, hi, rfl⟩ := List.getElem_of_mem hy
      have hi2 : i < putZk L x := by rw [List.length_take] at hi; omega
      have h3 := putZk_lt i hi2
      have h4 : i < L.length := by have := putZk_le L x; omega
      rw [getD_at L i h4] at h3
      simpa using h3
    have hgt : ∀ y ∈ L.drop (putZk L x), x < y := fun y hy => by
      obtain ⟨i, hi, rfl⟩ := List.getElem_of_mem hy
      rw [List.length_drop] at hi
      have h4 : putZk L x < L.length := by omega
      have h5 := putZk_at h4
      have h6 : L.getD (putZk L x) 0 ≠ x := fun e => hn ⟨e, h4⟩
      rw [getD_at L _ h4] at h5 h6
      rw [List.getElem_drop]
      cases i with
      | zero => simp; omega
      | succ i =>
        have := (List.pairwise_iff_getElem.1 h) (putZk L x) (putZk L x + (i + 1)) h4 (by omega) (by omega)
        omega
    unfold RisingI
    rw [List.pairwise_append]
    refine ⟨h1, List.pairwise_cons.2 ⟨fun y hy => hgt y hy, h2⟩, fun y hy z hz => ?_⟩
    have := hlt y hy
    rcases List.mem_cons.1 hz with rfl | hz
    · exact this
    · have := hgt z hz; omega
def putsZ (L : List Int) (xs : List Int) : List Int := xs.foldl putZ L
theorem putsZ_snoc (L xs : List Int) (x : Int) : putsZ L (xs ++ [x]) = putZ (putsZ L xs) x := by simp [putsZ]
theorem putsZ_mem {L xs : List Int} {y : Int} : y ∈ putsZ L xs ↔ y ∈ L ∨ y ∈ xs := by
  induction xs generalizing L with
  | nil => simp [putsZ]
  | cons x xs ih =>
    show y ∈ putsZ (putZ L x) xs ↔ _
    rw [ih, putZ_mem]
    simp only [List.mem_cons]
    constructor
    · rintro ((h | h) | h)
      · exact .inl h
      · exact .inr (.inl h)
      · exact .inr (.inr h)
    · rintro (h | h | h)
      · exact .inl (.inl h)
      · exact .inl (.inr h)
      · exact .inr h
theorem putsZ_rising {L xs : List Int} (h : RisingI L) : RisingI (putsZ L xs) := by
  induction xs generalizing L with
  | nil => exact h
  | cons x xs ih => exact ih (putZ_rising h)
/-- What the model's search keeps: Q is its queue, the first k of it are done. -/
structure InvQ (t0 : Qd4) (Q : List Qd4) (k : Nat) : Prop where
  first : t0 ∈ Q
  nodup : Q.Nodup
  reach : ∀ t ∈ Q, Reach24 t0 t
  closed : ∀ j, (h : j < k) → (h2 : j < Q.length) → ∀ u ∈ sws24 Q[j], u ∈ Q
theorem InvQ.start (t0 : Qd4) : InvQ t0 [t0] 0 := ⟨by simp, by simp, fun t ht => by simp at ht; rw [ht]; exact .start, fun j h => absurd h (Nat.not_lt_zero j)⟩
theorem InvQ.push {t0 : Qd4} {Q : List Qd4} {k : Nat} (h : InvQ t0 Q k) {u : Qd4} (hu : Reach24 t0 u) (hn : u ∉ Q) (hk : k ≤ Q.length) : InvQ t0 (Q ++ [u]) k := by
  refine ⟨List.mem_append.2 (.inl h.first), ?_, fun t ht => ?_, fun j hj hj2 v hv => ?_⟩
  · rw [List.nodup_append]
    refine ⟨h.nodup, by simp, fun a ha b hb => ?_⟩
    rw [List.mem_singleton] at hb
    rw [hb]
    rintro rfl
    exact hn ha
  · rcases List.mem_append.1 ht with h1 | h1
    · exact h.reach t h1
    · simp at h1; rw [h1]; exact hu
  · have h3 : j < Q.length := by omega
    rw [List.getElem_append_left h3] at hv
    exact List.mem_append.2 (.inl (h.closed j hj h3 v hv))
theorem InvQ.next {t0 : Qd4} {Q : List Qd4} {k : Nat} (h : InvQ t0 Q k) (hk : k < Q.length) (hall : ∀ u ∈ sws24 Q[k], u ∈ Q) : InvQ t0 Q (k + 1) := by
  refine ⟨h.first, h.nodup, h.reach, fun j hj hj2 v hv => ?_⟩
  by_cases e : j = k
  · subst e; exact hall v hv
  · exact h.closed j (by omega) hj2 v hv
theorem InvQ.len {t0 : Qd4} (h0 : In24 t0) {Q : List Qd4} {k : Nat} (h : InvQ t0 Q k) : Q.length ≤ 331776 := by
  have h1 := len24 (L := Q.map qsL) (by
    rw [List.Nodup, List.pairwise_map]
    exact h.nodup.imp (fun {a b} hne e => hne (qsL_inj e))) (fun x hx => by
    obtain ⟨t, ht, rfl⟩ := List.mem_map.1 hx
    exact ⟨t, rfl, (h.reach t ht).in24 h0⟩)
  simpa using h1
theorem InvQ.done {t0 : Qd4} {Q : List Qd4} {k : Nat} (h : InvQ t0 Q k) (hk : Q.length ≤ k) (t : Qd4) : t ∈ Q ↔ Reach24 t0 t := by
  refine ⟨h.reach t, fun ht => ?_⟩
  induction ht with
  | start => exact h.first
  | step t u _ hu ih =>
    obtain ⟨j, hj, rfl⟩ := List.getElem_of_mem ih
    exact h.closed j (by omega) hj u hu
/-- The numbers of all that is reached, put in one after the other. -/
theorem resL_puts {t0 : Qd4} (h0 : In24 t0) {Q : List Qd4} (h : ∀ t, t ∈ Q ↔ Reach24 t0 t) : putsZ [] (flatQ Q) = resL t0 := by
  refine risingI_unique _ _ (putsZ_rising List.Pairwise.nil) (resL_rising t0) fun x => ?_
  rw [putsZ_mem, resL_mem h0]
  unfold flatQ
  rw [List.mem_flatMap]
  constructor
  · rintro (h1 | ⟨t, ht, hx⟩)
    · simp at h1
    · exact ⟨t, (h t).1 ht, hx⟩
  · rintro ⟨t, ht, hx⟩
    exact .inr ⟨t, (h t).2 ht, hx⟩
theorem md24_of {x : Int} (h : 0 ≤ x ∧ x < 24) : md24 x = x := rem_in24 h
/-- The model's swap changes one number, and takes that one modulo 24. -/
theorem sw24_set {a b c d : Int} (h : In24 (a, b, c, d)) (i : Nat) (hi : i < 4) : qsL (sw24 (a, b, c, d) i) = [a, b, c, d].set i (md24 (swN [a, b, c, d] i)) := by
  obtain ⟨ha, hb, hc, hd⟩ := h
  have e1 := md24_of ha
  have e2 := md24_of hb
  have e3 := md24_of hc
  have e4 := md24_of hd
  simp only at e1 e2 e3 e4
  have h4 : i = 0 ∨ i = 1 ∨ i = 2 ∨ i = 3 := by omega
  unfold sw24 swL
  rw [show qsL (a, b, c, d) = [a, b, c, d] from rfl]
  rcases h4 with rfl | rfl | rfl | rfl <;> simp [qOf, qsL, e1, e2, e3, e4]
theorem cd24_inj {s t : Qd4} (hs : In24 s) (ht : In24 t) (h : cd24 (qsL s) 0 = cd24 (qsL t) 0) : s = t := by
  obtain ⟨a, b, c, d⟩ := s
  obtain ⟨p, q, r, u⟩ := t
  obtain ⟨⟨a1, a2⟩, ⟨b1, b2⟩, ⟨c1, c2⟩, ⟨d1, d2⟩⟩ := hs
  obtain ⟨⟨p1, p2⟩, ⟨q1, q2⟩, ⟨r1, r2⟩, ⟨u1, u2⟩⟩ := ht
  simp only [qsL, cd24] at h a1 a2 b1 b2 c1 c2 d1 d2 p1 p2 q1 q2 r1 r2 u1 u2
  simp only [Prod.mk.injEq]
  omega
/-- The row of flags: it tells just what stands in the queue. -/
def SeenIs (S : List Bool) (Q : List Qd4) : Prop := S.length = 331776 ∧ ∀ t, In24 t → S.getD (cd24 (qsL t) 0).toNat false = decide (t ∈ Q)
theorem cd24_in {t : Qd4} (h : In24 t) : 0 ≤ cd24 (qsL t) 0 ∧ cd24 (qsL t) 0 < 331776 :=
  cd24_bound _ (fun x hx => by
    obtain ⟨⟨a1, a2⟩, ⟨b1, b2⟩, ⟨c1, c2⟩, ⟨d1, d2⟩⟩ := h
    simp [qsL] at hx
    rcases hx with rfl | rfl | rfl | rfl <;> omega) (by simp [qsL])
theorem SeenIs.none (n : Nat) (hn : n = 331776) : SeenIs (List.replicate n false) [] := by
  refine ⟨by rw [List.length_replicate]; exact hn, fun t ht => ?_⟩
  have := cd24_in ht
  rw [List.getD_eq_getElem?_getD, List.getElem?_replicate, if_pos (by omega)]
  simp
theorem SeenIs.push {S : List Bool} {Q : List Qd4} (h : SeenIs S Q) {u : Qd4} (hu : In24 u) : SeenIs (S.set (cd24 (qsL u) 0).toNat true) (Q ++ [u]) := by
  refine ⟨by rw [List.length_set]; exact h.1, fun t ht => ?_⟩
  have h1 := cd24_in hu
  have h2 := cd24_in ht
  by_cases e : t = u
  · subst e
    have h3 : (cd24 (qsL t) 0).toNat < S.length := by rw [h.1]; omega
    rw [List.getD_eq_getElem?_getD, List.getElem?_set_self h3]
    simp
  · have hne : (cd24 (qsL u) 0).toNat ≠ (cd24 (qsL t) 0).toNat := fun e2 => e (cd24_inj ht hu (by omega))
    rw [List.getD_eq_getElem?_getD, List.getElem?_set_ne hne, ← List.getD_eq_getElem?_getD, h.2 t ht]
    simp [e]
end

section
open Go.RowKit

/-- A row is kept while a block that holds cells of another type is written. -/
theorem rowApart {w w' : World} {lo : Nat} {e t : TypeId} {sz b : Nat} {v : Value} {n : Nat} {xs : List Value} {cur : Array Value} (h : w.ownsRow lo e sz v n xs) (hg : w.grownBy w' (some b)) (hb : w.heap[b]? = some (.cells cur t (0, 0))) (hne : t ≠ e) : w'.ownsRow lo e sz v n xs :=
  h.kept hg (rowNe h hb (fun c he => by cases he; exact hne rfl))
/-- What block a row that isn't nil lies in. -/
theorem rowBlock {w : World} {lo : Nat} {e : TypeId} {sz g n c : Nat} {xs : List Value} (h : w.ownsRow lo e sz (.slice (some ⟨g, 0, none⟩) n c) n xs) : ∃ cur, w.heap[g]? = some (.cells cur e (0, 0)) := by
  rcases h.2 with ⟨e1, _⟩ | ⟨g', c', cur, e1, _, hg, _⟩
  · cases e1
  · cases e1; exact ⟨cur, hg⟩
theorem rowForm {w : World} {lo : Nat} {e : TypeId} {sz n : Nat} {v : Value} {xs : List Value} (h : w.ownsRow lo e sz v n xs) (hn : 0 < n) : ∃ g c, v = .slice (some ⟨g, 0, none⟩) n c ∧ lo ≤ g ∧ g < w.heap.size ∧ n ≤ c := by
  rcases h.2 with ⟨_, h0⟩ | ⟨g, c, cur, e1, hb, hg, hn2, _⟩
  · omega
  · exact ⟨g, c, e1, hb, (Array.getElem?_eq_some_iff.1 hg).1, hn2⟩
/-- The queue: a row of slices, each a row of four numbers of its own. -/
structure QIs (lo : Nat) (w : World) (v : Value) (us : List Value) (Q : List Qd4) : Prop where
  len : us.length = Q.length
  row : w.ownsRow lo 29 1 v us.length us
  each : ∀ i, (h : i < Q.length) → w.ownsRow lo 3 1 (us.getD i undef) 4 ((qsL Q[i]).map (Value.int .i64))
theorem QIs.later {lo : Nat} {w w' : World} {v : Value} {us : List Value} {Q : List Qd4} (h : QIs lo w v us Q) (k : Later w w') : QIs lo w' v us Q :=
  ⟨h.len, ownsRow_keepQ h.row fun b hb => k.block b (h.row.lt b hb).2, fun i hi => ownsRow_keepQ (h.each i hi) fun b hb => k.block b ((h.each i hi).lt b hb).2⟩
/-- .. while the flags are written -/
theorem QIs.apart {lo : Nat} {w w' : World} {v : Value} {us : List Value} {Q : List Qd4} {b : Nat} {t : TypeId} {cur : Array Value} (h : QIs lo w v us Q) (hg : w.grownBy w' (some b)) (hb : w.heap[b]? = some (.cells cur t (0, 0))) (h1 : t ≠ 3) (h2 : t ≠ 29) : QIs lo w' v us Q :=
  ⟨h.len, rowApart h.row hg hb h2, fun i hi => rowApart (h.each i hi) hg hb h1⟩
/-- One more stands in the queue. -/
theorem QIs.push {lo : Nat} {w w' : World} {v v' u : Value} {us : List Value} {Q : List Qd4} {t : Qd4} (h : QIs lo w v us Q) (hu : w.ownsRow lo 3 1 u 4 ((qsL t).map (Value.int .i64)))
    (hg : w.grownBy w' v.ownBlock) (hr : w'.ownsRow lo 29 1 v' (us.length + 1) (us ++ [u])) : QIs lo w' v' (us ++ [u]) (Q ++ [t]) := by
  have hkeep : ∀ {x : Value} {xs : List Value}, w.ownsRow lo 3 1 x 4 xs → w'.ownsRow lo 3 1 x 4 xs := fun {x xs} hx => by
    refine hx.kept hg ?_
    rcases h.row.2 with ⟨e, _⟩ | ⟨g, c, cur, e, _, hgb, _⟩
    · rw [e]
      obtain ⟨g', c', e', _⟩ := rowForm hx (by omega)
      exact .inr (by rw [e']; simp [Value.ownBlock])
    · rw [e]
      rcases rowNe hx hgb (fun cc he => by cases he) with h1 | h1
      · exact .inl h1
      · exact .inr h1
  refine ⟨by simp [h.len], by simpa using hr, fun i hi => ?_⟩
  by_cases hlt : i < Q.length
  · rw [List.getElem_append_left hlt]
    have e : (us ++ [u]).getD i undef = us.getD i undef := by
      have : i < us.length := by rw [h.len]; exact hlt
      simp [List.getD_eq_getElem?_getD, List.getElem?_append_left this]
    rw [e]
    exact hkeep (h.each i hlt)
  · have hi2 : i = Q.length := by simp at hi; omega
    subst hi2
    have e : (us ++ [u]).getD Q.length undef = u := by rw [← h.len]; simp
    rw [e]
    simpa using hkeep hu
/-- The flags. -/
def FlagsAre (lo : Nat) (w : World) (S n : Nat) (bs : List Bool) : Prop := bs.length = n ∧ w.ownsRow lo 4 1 (.slice (some ⟨S, 0, none⟩) n n) n (bs.map Value.bool)
theorem FlagsAre.later {lo : Nat} {w w' : World} {S n : Nat} {bs : List Bool} (h : FlagsAre lo w S n bs) (k : Later w w') : FlagsAre lo w' S n bs :=
  ⟨h.1, ownsRow_keepQ h.2 fun b hb => k.block b (h.2.lt b hb).2⟩
theorem FlagsAre.at {lo : Nat} {w : World} {S n : Nat} {bs : List Bool} (h : FlagsAre lo w S n bs) (i : Nat) (hi : i < n) : w.cell? ⟨S, i, none⟩ = some (.bool (bs.getD i false)) ∧ w.frozen? ⟨S, i, none⟩ = false := by
  refine ⟨?_, h.2.frozenAt i⟩
  rw [h.2.cellAt i (by omega)]
  have : i < bs.length := by rw [h.1]; exact hi
  simp [this]
theorem FlagsAre.set {lo : Nat} {w : World} {S n : Nat} {bs : List Bool} (h : FlagsAre lo w S n bs) (i : Nat) : FlagsAre lo (w.setCell ⟨S, i, none⟩ (.bool true)) S n (bs.set i true) ∧ w.grownBy (w.setCell ⟨S, i, none⟩ (.bool true)) (some S) := by
  obtain ⟨h1, h2⟩ := World.ownsRow.stored h.2 i (.bool true)
  refine ⟨⟨by rw [List.length_set]; exact h.1, ?_⟩, h2⟩
  rw [← List.map_set] at h1
  exact h1
theorem FlagsAre.block {lo : Nat} {w : World} {S n : Nat} {bs : List Bool} (h : FlagsAre lo w S n bs) : ∃ cur, w.heap[S]? = some (.cells cur 4 (0, 0)) := rowBlock h.2
/-- .. while the queue's own row is written -/
theorem FlagsAre.apart {lo : Nat} {w w' : World} {S n : Nat} {bs : List Bool} {v : Value} {us : List Value} (h : FlagsAre lo w S n bs) (hr : w.ownsRow lo 29 1 v us.length us) (hg : w.grownBy w' v.ownBlock) : FlagsAre lo w' S n bs := by
  refine ⟨h.1, h.2.kept hg ?_⟩
  rcases hr.2 with ⟨e, _⟩ | ⟨g, c, cur, e, _, hgb, _⟩
  · rw [e]; exact .inr (by simp [Value.ownBlock])
  · rw [e]
    rcases rowNe h.2 hgb (fun cc he => by cases he) with h1 | h1
    · exact .inl h1
    · exact .inr h1
/-- a row of numbers, while the queue's own row is written -/
theorem intsApart {lo : Nat} {w w' : World} {v x : Value} {us xs : List Value} {n : Nat} (h : w.ownsRow lo 3 1 x n xs) (hr : w.ownsRow lo 29 1 v us.length us) (hg : w.grownBy w' v.ownBlock) : w'.ownsRow lo 3 1 x n xs := by
  refine h.kept hg ?_
  rcases hr.2 with ⟨e, _⟩ | ⟨g, c, cur, e, _, hgb, _⟩
  · rw [e]
    rcases h.2 with ⟨e', _⟩ | ⟨g', c', cur', e', _⟩
    · exact .inl (by rw [e']; rfl)
    · exact .inr (by rw [e']; simp [Value.ownBlock])
  · rw [e]
    rcases rowNe h hgb (fun cc he => by cases he) with h1 | h1
    · exact .inl h1
    · exact .inr h1
theorem rise24_len {L : List Int} (h : RisingI L) (hb : ∀ x ∈ L, 0 ≤ x ∧ x < 24) : L.length ≤ 24 := by
  have h1 := nodup_len 24 (L.map Int.toNat) (by
    rw [List.Nodup, List.pairwise_map]
    exact List.Pairwise.imp_of_mem (fun {a b} ha hb' hab e => by have := hb a ha; have := hb b hb'; omega) h) (fun x hx => by
    obtain ⟨y, hy, rfl⟩ := List.mem_map.1 hx
    have := hb y hy
    omega)
  simpa using h1
end

section
open Go.RowKit

theorem Ints.cellAt {w : World} {a : Option Addr} {n cap : Nat} {zs : List Int} (h : Ints w (.slice a n cap) zs) (k : Nat) (hk : k < n) : ∃ ad, a = some ad ∧ w.cell? (ad.add k) = some (.int .i64 (zs.getD k 0)) := by
  obtain ⟨a', cap', e, _, hc⟩ := h
  cases e
  exact hc k hk
theorem measK (k : Nat) (h : k < 331776) : 400000 - ((k : Int) + 1).toNat < 400000 - (k : Int).toNat := by omega
theorem madeB (n : Nat) : (madeCells (Value.bool false).cells (n * 1)).toList = (List.replicate n false).map Value.bool := by
  rw [Nat.mul_one, show (Value.bool false).cells = #[Value.bool false] from rfl, toList_madeCells_one]
  simp
theorem Try.infoB : (Try.prog.info? 4).map (fun i => (i.zero, i.size, i.bytes)) = some (some (.bool false), 1, 1) := by kernel_rfl
set_option maxRecDepth 100000 in
set_option maxHeartbeats 4000000 in
theorem specResiduesYes_any (v : Value) (a b c d : Int) (w : World) (hg : apB [a, b, c, d] = true) (hG : gcdL [a, b, c, d] = 1) (hq : QD a b c d) (h : Ints w v [a, b, c, d]) :
    Calls Try.prog 10 #[v] w fun e w' => IntsAns w (some (resL (md4 a b c d))) e w' := by
  obtain ⟨ib, hib, ib0, ib1, ib2⟩ := info_parts Try.infoB
  obtain ⟨i0, hi, hz0, hz1, hz2⟩ := info_parts Try.infoInt
  obtain ⟨ad, cap, rfl, k0, k1, k2, k3⟩ := h.four
  have H := hid h
  have HG := hid hg
  have HSC := hid (fun (w0 : World) (h0 : Ints w0 (.slice (some ad) 4 cap) [a, b, c, d]) => show Calls Try.prog 24 #[.slice (some ad) 4 cap] w0 fun e w' => e = .returned (.int .i64 1) ∧ Later w0 w' from hG ▸ apScale_any _ a b c d w0 hq h0)
  obtain ⟨NB, hNB⟩ : ∃ n : Nat, n = 331776 := ⟨_, rfl⟩
  have HNB := hid hNB
  have HNI := hid (show (331776 : Int) = (NB : Int) by omega)
  have HIB := hid ib2
  clear h hg hG hq hNB
  go_enter Try.func10, Try.ntmps10
  go_wp2_with (first
    | (go_at_call 23; refine (apGood_as _ _ _ _ HG.out H.out).mono ?_; rintro e w' ⟨rfl, rfl⟩)
    | (go_at_call 24; refine (HSC.out _ H.out).mono ?_; rintro e w2 ⟨rfl, hL2⟩; have HL2 := hid hL2; clear hL2)
    | (at_make; refine wpList_make_full _ rfl _ _ 43 rfl w2.heap.size 4 ib (.bool false) 1 Try.underlying43 hib ib0 ib1 _ _ _ _ NB rfl rfl HNI.out HNI.out (by rw [HIB.out]; have := HNB.out; omega) (by have := HNB.out; unfold maxLen; omega) (Nat.le_refl _) ?_; intro w3 hown3 hgrow3))
  have HF := hid (show FlagsAre w2.heap.size w3 w2.heap.size NB (List.replicate NB false) from ⟨List.length_replicate, by rw [madeB] at hown3; exact hown3⟩)
  have HL3 := hid (show Later w w3 from Below.grown HL2.out hgrow3 HL2.out.size (fun k e => by cases e))
  have HS3 := hid (show w2.heap.size < w3.heap.size from by have := (rowForm hown3 (by have := HNB.out; omega)); obtain ⟨g, c, e, _, h2, _⟩ := this; cases e; exact h2)
  clear hown3 hgrow3 hib ib0 ib1 ib2 HIB k0 k1 k2 k3 HG HSC
  go_loopw [5, 27] (fun r i wr => ∃ k : Nat, k ≤ 4 ∧ i = .int .i64 k ∧ wr.ownsRow w3.heap.size 3 1 r k ((([a, b, c, d].take k).map md24).map (Value.int .i64)) ∧ Later w3 wr) (fun _ i _ => 4 - (intOf i).toNat)
  case atStart => exact ⟨0, by omega, rfl, ⟨rfl, .inl ⟨rfl, rfl⟩⟩, Later.refl _⟩
  case round =>
    obtain ⟨k, hk, rfl, hR, hL⟩ := hrel
    by_cases hlt : k < 4
    · obtain ⟨ad', e1, hcell⟩ := ((H.out.later HL3.out).later hL).cellAt k hlt
      obtain rfl : ad = ad' := Option.some.inj e1
      have hsn : ([a, b, c, d].take (k + 1)).map md24 = ([a, b, c, d].take k).map md24 ++ [md24 ([a, b, c, d].getD k 0)] := by
        have h4 : k = 0 ∨ k = 1 ∨ k = 2 ∨ k = 3 := by omega
        rcases h4 with rfl | rfl | rfl | rfl <;> rfl
      obtain ⟨x, hx⟩ : ∃ x, [a, b, c, d].getD k 0 = x := ⟨_, rfl⟩
      rw [hx] at hcell hsn
      have h1 := tmod_in x 24 (by omega)
      obtain ⟨r, hr⟩ : ∃ r, x.tmod 24 = r := ⟨_, rfl⟩
      obtain ⟨q, hq⟩ : ∃ q, (r + 24).tmod 24 = q := ⟨_, rfl⟩
      have hmd : md24 x = q := by unfold md24 remT; rw [hr]; exact hq
      rw [hr] at h1
      have w1' : IntKind.i64.wrap (r + 24) = r + 24 := by rw [IntWalk.i64_left]; exact IntWalk.wrap64_in _ (by omega)
      rw [hmd] at hsn
      have HSN := hid hsn
      have HR := hid hR
      have HL := hid hL
      have HS := hid hL.size
      clear hx hmd hsn hR hL e1
      go_wp2_with (first
        | (at_builtin; refine wpList_append_own_at _ (by rfl) _ _ _ (by rfl) w3.heap.size 3 i0 (.int .i64 0) 1 8 Try.underlying29 hi hz0 hz1 hz2 rfl (by omega) u5 k _ (by rfl) (by exact HR.out.alloc (.cells #[.int .i64 q] 3)) ⟨wr.heap.size, 0, none⟩ 1 1 [.int .i64 q] (by rfl) (by rfl) (cell_one_new _ _ _) (by simp [Value.oneCell']) (by unfold maxLen; omega) (by omega) (by have := HS.out; simp; omega) ?_; intro v' w5 hown5 hgrow5 hnil5 hloc5)
        | go_in)
      have HR5 := hid (show w5.ownsRow w3.heap.size 3 1 v' (k + 1) ((([a, b, c, d].take (k + 1)).map md24).map (Value.int .i64)) by
        rw [HSN.out, List.map_append]
        exact hown5)
      have HL5 := hid (show Later w3 w5 from Below.grown (HL.out.trans (Later.alloc wr (.cells #[.int .i64 q] 3))) hgrow5 (by have := HS.out; simp; omega) (fun j e => (HR.out.lt j e).1))
      go_roundw
      case rel => exact ⟨k + 1, hlt, by go_num, HR5.out, HL5.out⟩
      case measure => simp [intOf]; omega
    · obtain rfl : k = 4 := by omega
      have HL := hid hL
      obtain ⟨f, cf, rfl, hf1, hf2, _⟩ := rowForm hR (by omega)
      have HR := hid (show wr.ownsRow w3.heap.size 3 1 (.slice (some ⟨f, 0, none⟩) 4 cf) 4 ((qsL (md4 a b c d)).map (Value.int .i64)) from hR)
      have HLO := hid (show w2.heap.size ≤ w3.heap.size from Nat.le_of_lt HS3.out)
      obtain ⟨wq, hwq⟩ : ∃ wq, wr.alloc (.cells #[.slice (some ⟨f, 0, none⟩) 4 cf] 29) = wq := ⟨_, rfl⟩
      have hLq : Later wr wq := by rw [← hwq]; exact Later.alloc _ _
      have HRq := hid (show wq.ownsRow w3.heap.size 3 1 (.slice (some ⟨f, 0, none⟩) 4 cf) 4 ((qsL (md4 a b c d)).map (Value.int .i64)) by rw [← hwq]; exact HR.out.alloc _)
      have HIq := hid (show Ints wq (.slice (some ⟨f, 0, none⟩) 4 cf) (qsL (md4 a b c d)) from ⟨some ⟨f, 0, none⟩, cf, rfl, by simp [qsL], fun j hj => ⟨_, rfl, by
        rw [addr_add0]
        have h4 : j < 4 := by simpa [qsL] using hj
        rw [World.ownsRow.cellAt HRq.out j (by omega)]
        have h5 : j = 0 ∨ j = 1 ∨ j = 2 ∨ j = 3 := by omega
        rcases h5 with rfl | rfl | rfl | rfl <;> rfl⟩⟩)
      have HQR := hid (show wq.ownsRow w2.heap.size 29 1 (.slice (some ⟨wr.heap.size, 0, none⟩) 1 1) 1 [.slice (some ⟨f, 0, none⟩) 4 cf] by
        have h := World.ownsRow_lit (e := 29) (size := 1) wr #[.slice (some ⟨f, 0, none⟩) 4 cf] 1 (Nat.le_refl _) (by unfold maxLen; omega) (by simp)
        rw [hwq] at h
        exact World.ownsRow.mono (by simpa using h) (Nat.le_trans HLO.out HL.out.size))
      have HFq := hid ((HF.out.later HL.out).later hLq)
      have HLq := hid (HL3.out.trans (HL.out.trans hLq))
      have hci := cd24_in (md4_in a b c d)
      obtain ⟨C, hC⟩ : ∃ C : Nat, cd24 (qsL (md4 a b c d)) 0 = (C : Int) := ⟨(cd24 (qsL (md4 a b c d)) 0).toNat, by omega⟩
      have HC := hid hC
      have HAC := hid (show Calls Try.prog 25 #[.slice (some ⟨f, 0, none⟩) 4 cf] wq fun e w' => e = .returned (.int .i64 (C : Int)) ∧ wq = w' from hC ▸ apCode_any _ _ wq rfl (fun x hx => by
        simp [qsL, md4] at hx
        rcases hx with rfl | rfl | rfl | rfl <;> exact md24_in _) HIq.out)
      have hCN : C < NB := by have := HNB.out; omega
      have hCI : (C : Int) < (NB : Int) := by omega
      have hC0 : (0 : Int) ≤ (C : Int) := by omega
      have HCN := hid hCN
      have fa := (HFq.out.at C hCN).1
      have fb := (HFq.out.at C hCN).2
      obtain ⟨bv, hbv⟩ : ∃ bv, (List.replicate NB false).getD C false = bv := ⟨_, rfl⟩
      rw [hbv] at fa
      clear hbv
      clear hR hL hf1 hf2 hk hlt hC hci hLq HF HL HR
      go_wp2_with (first | (go_at_call 25; refine HAC.out.mono ?_; rintro e w' ⟨rfl, rfl⟩))
      have hset := HFq.out.set C
      obtain ⟨curS, hblk⟩ := HFq.out.block
      have HF0 := hid hset.1
      have HQ0 := hid (show QIs w2.heap.size (wq.setCell ⟨w2.heap.size, C, none⟩ (.bool true)) (.slice (some ⟨wr.heap.size, 0, none⟩) 1 1) [.slice (some ⟨f, 0, none⟩) 4 cf] [md4 a b c d] from
        QIs.apart (us := [.slice (some ⟨f, 0, none⟩) 4 cf]) (Q := [md4 a b c d]) ⟨rfl, HQR.out, fun j hj => by
          have : j = 0 := by simp at hj; omega
          subst this
          exact World.ownsRow.mono HRq.out HLO.out⟩ hset.2 hblk (by decide) (by decide))
      have HL0 := hid (show Later w (wq.setCell ⟨w2.heap.size, C, none⟩ (.bool true)) from Below.grown HLq.out hset.2 HLq.out.size (fun j e => by have h1 := Option.some.inj e; have := HL2.out.size; omega))
      have HSE0 := hid (show SeenIs ((List.replicate NB false).set C true) [md4 a b c d] from by
        have h := (SeenIs.none NB HNB.out).push (md4_in a b c d)
        rw [HC.out] at h
        simpa using h)
      generalize wq.setCell ⟨w2.heap.size, C, none⟩ (.bool true) = ws at HF0 HQ0 HL0 ⊢
      obtain ⟨S, hS⟩ : ∃ S, w2.heap.size = S := ⟨_, rfl⟩
      have HSW := hid (show w.heap.size ≤ S by have := HL2.out.size; omega)
      rw [hS] at HF0 HQ0 ⊢
      obtain ⟨bs0, hbs⟩ : ∃ bs, (List.replicate NB false).set C true = bs := ⟨_, rfl⟩
      rw [hbs] at HF0 HSE0
      clear hset hblk hS fa fb hCN hCI hC0 HFq HQR HLq HRq HIq hwq hbs HAC
      obtain ⟨t0, ht0⟩ : ∃ t, md4 a b c d = t := ⟨_, rfl⟩
      have HT0 := hid (show In24 t0 by rw [← ht0]; exact md4_in a b c d)
      rw [ht0] at HQ0 HSE0
      have HT := hid ht0
      clear ht0
      go_loopw [8, 9, 10] (fun qv ov i wr => ∃ (k : Nat) (Q : List Qd4) (us : List Value) (bs : List Bool) (O : List Int), i = .int .i64 k ∧ k ≤ Q.length ∧ QIs S wr qv us Q ∧ O = putsZ [] (flatQ (Q.take k)) ∧ wr.ownsRow S 3 1 ov O.length (O.map (Value.int .i64)) ∧ FlagsAre S wr S NB bs ∧ InvQ t0 Q k ∧ SeenIs bs Q ∧ Later w wr) (fun _ _ i _ => 400000 - (intOf i).toNat)
      case atStart => exact ⟨0, [t0], _, bs0, [], rfl, Nat.zero_le _, HQ0.out, rfl, ⟨rfl, .inl ⟨rfl, rfl⟩⟩, HF0.out, InvQ.start t0, HSE0.out, HL0.out⟩
      case round =>
        obtain ⟨k, Q, us, bs, O, rfl, hkQ, hQ, hO, hOR, hF, hI, hSE, hL⟩ := hrel
        clear HF0 HQ0 HL0 HSE0
        have hpos : 0 < Q.length := List.length_pos_of_mem hI.first
        have hr := hQ.row
        rw [hQ.len] at hr
        obtain ⟨g, cq, rfl, _, _, _⟩ := rowForm hr hpos
        have HQN := hid (hI.len HT0.out)
        by_cases hkn : k < Q.length
        · have hkI : (k : Int) < (Q.length : Int) := by omega
          have hkus : k < us.length := by rw [hQ.len]; exact hkn
          have hck : wr.cell? ⟨g, k, none⟩ = some (us.getD k undef) := by
            rw [World.ownsRow.cellAt hr k (by omega)]
            simp [hkus]
          have hE := hQ.each k hkn
          have htk : Q.take (k + 1) = Q.take k ++ [Q[k]] := List.take_succ_eq_append_getElem hkn
          have hrt := hI.reach _ (List.getElem_mem hkn)
          obtain ⟨u, hu⟩ : ∃ u, us.getD k undef = u := ⟨_, rfl⟩
          obtain ⟨t, ht⟩ : ∃ t, Q[k] = t := ⟨_, rfl⟩
          rw [hu] at hck hE
          rw [ht] at hE htk hrt
          obtain ⟨b, cb, rfl, _, _, _⟩ := rowForm hE (by omega)
          have ht24 := hrt.in24 HT0.out
          have HX24 := hid (show ∀ x ∈ qsL t, 0 ≤ x ∧ x < 24 from fun x hx => by
            obtain ⟨⟨a1, a2⟩, ⟨b1, b2⟩, ⟨c1, c2⟩, ⟨d1, d2⟩⟩ := ht24
            simp [qsL] at hx
            rcases hx with rfl | rfl | rfl | rfl <;> omega)
          have HTL := hid (show (qsL t).length = 4 from rfl)
          have HO24 := hid (show RisingI O ∧ ∀ x ∈ O, 0 ≤ x ∧ x < 24 by
            rw [hO]
            refine ⟨putsZ_rising List.Pairwise.nil, fun x hx => ?_⟩
            rcases putsZ_mem.1 hx with h1 | h1
            · simp at h1
            · unfold flatQ at h1
              obtain ⟨y, hy, hxy⟩ := List.mem_flatMap.1 h1
              obtain ⟨⟨a1, a2⟩, ⟨b1, b2⟩, ⟨c1, c2⟩, ⟨d1, d2⟩⟩ := (hI.reach y (List.mem_of_mem_take hy)).in24 HT0.out
              simp [qsL] at hxy
              rcases hxy with rfl | rfl | rfl | rfl <;> omega)
          have HON := hid (show putsZ O (qsL t) = putsZ [] (flatQ (Q.take (k + 1))) by
            rw [htk, hO]
            unfold flatQ putsZ
            rw [List.flatMap_append, List.foldl_append]
            simp)
          have HTK := hid htk
          have HQ := hid hQ
          have HOR := hid hOR
          have HF := hid hF
          have HI := hid hI
          have HSE := hid hSE
          have HL := hid hL
          have HE := hid hE
          have HQR := hid hr
          have HRT := hid hrt
          have HT24 := hid ht24
          have HKN := hid hkn
          have HTE := hid ht
          have HSZ := hid (show S ≤ wr.heap.size by have := (hF.2.lt S rfl).2; omega)
          have HCK := hid hck
          clear hQ hO hOR hF hI hSE hL hE hr hrt ht24 htk hu ht hkQ
          go_wp2_with fail
          go_loopw [9, 56] (fun ov i wx => ∃ (j : Nat) (P : List Int), i = .int .i64 j ∧ j ≤ 4 ∧ P = putsZ O ((qsL t).take j) ∧ wx.ownsRow S 3 1 ov P.length (P.map (Value.int .i64)) ∧ Later wr wx) (fun _ i _ => 4 - (intOf i).toNat)
          case atStart => exact ⟨0, O, rfl, by omega, rfl, HOR.out, Later.refl _⟩
          case round =>
            obtain ⟨j, P, rfl, hj, hP, hPR, hLx⟩ := hrel
            by_cases hj4 : j < 4
            · have hjt : j < (qsL t).length := by rw [HTL.out]; exact hj4
              have hcell : wr.cell? ⟨b, j, none⟩ = some (.int .i64 ((qsL t)[j])) := by
                refine hLx.cell ?_
                rw [World.ownsRow.cellAt HE.out j (by omega)]
                simp [hjt]
              have hnx : putZ P (qsL t)[j] = putsZ O ((qsL t).take (j + 1)) := by rw [hP, List.take_succ_eq_append_getElem hjt, putsZ_snoc]
              have hPl : P.length ≤ 24 := rise24_len (by rw [hP]; exact putsZ_rising HO24.out.1) (fun x hx => by
                rw [hP] at hx
                rcases putsZ_mem.1 hx with h1 | h1
                · exact HO24.out.2 x h1
                · exact HX24.out x (List.mem_of_mem_take h1))
              obtain ⟨x, hx⟩ : ∃ x, (qsL t)[j] = x := ⟨_, rfl⟩
              rw [hx] at hcell hnx
              have HPU := hid (l1Put_any S u9 P x wr (Nat.le_trans HSZ.out hLx.size) (by omega) hPR)
              have HNX := hid hnx
              have HLx := hid hLx
              clear hnx hP hPR hLx hx hPl hjt hck
              go_wp2_with (first | (go_at_call 26; refine HPU.out.mono ?_; rintro e w8 ⟨u8, rfl, ho8, hl8⟩; have HO8 := hid ho8; have HL8 := hid (HLx.out.trans hl8); clear ho8 hl8))
              go_roundw
              case rel => exact ⟨j + 1, putZ P x, by go_num, hj4, HNX.out, HO8.out, HL8.out⟩
              case measure => simp [intOf]; omega
            · obtain rfl : j = 4 := by omega
              have HP := hid (show P = putsZ [] (flatQ (Q.take (k + 1))) by
                rw [← HON.out, hP, List.take_of_length_le (by rw [HTL.out]; exact Nat.le_refl _)])
              have HPR := hid hPR
              have HQ4 := hid (HQ.out.later hLx)
              have HF4 := hid (HF.out.later hLx)
              have HL4 := hid (HL.out.trans hLx)
              clear hP hPR hLx hj hj4 hck HON HO24 HOR HX24 HE HCK HQR HTK
              obtain ⟨x0, x1, x2, x3⟩ := t
              have HMD := hid (HT24.out.md)
              go_wp2_with fail
              go_loopw [8, 13] (fun qv i wx => ∃ (m : Nat) (R : List Qd4) (us' : List Value) (bs' : List Bool), i = .int .i64 m ∧ m ≤ 4 ∧ QIs S wx qv us' (Q ++ R) ∧ FlagsAre S wx S NB bs' ∧ SeenIs bs' (Q ++ R) ∧ InvQ t0 (Q ++ R) k ∧ (∀ l, l < m → sw24 (x0, x1, x2, x3) l ∈ Q ++ R) ∧ wx.ownsRow S 3 1 u9 P.length (P.map (Value.int .i64)) ∧ Later w wx) (fun _ i _ => 4 - (intOf i).toNat)
              case atStart => exact ⟨0, [], us, bs, rfl, by omega, by rw [List.append_nil]; exact HQ4.out, HF4.out, by rw [List.append_nil]; exact HSE.out, by rw [List.append_nil]; exact HI.out, fun l hl => absurd hl (Nat.not_lt_zero l), HPR.out, HL4.out⟩
              case round =>
                obtain ⟨m, R, us', bs', rfl, hm, hQ, hF, hSE, hI, hall, hPR, hL⟩ := hrel
                by_cases hm4 : m < 4
                · have hkl : k < (Q ++ R).length := by rw [List.length_append]; have := HKN.out; omega
                  have hget : (Q ++ R)[k] = (x0, x1, x2, x3) := by rw [List.getElem_append_left HKN.out]; exact HTE.out
                  have hr := hQ.row
                  rw [hQ.len] at hr
                  obtain ⟨g', cq', rfl, _, _, _⟩ := rowForm hr (by omega)
                  have hkus : k < us'.length := by rw [hQ.len]; exact hkl
                  have hck : wr.cell? ⟨g', k, none⟩ = some (us'.getD k undef) := by
                    rw [World.ownsRow.cellAt hr k (by omega)]
                    simp [hkus]
                  have hE := hQ.each k hkl
                  rw [hget] at hE
                  obtain ⟨u, hu⟩ : ∃ u, us'.getD k undef = u := ⟨_, rfl⟩
                  rw [hu] at hck hE
                  obtain ⟨b', cb', rfl, _, _, _⟩ := rowForm hE (by omega)
                  have hIn : Ints wr (.slice (some ⟨b', 0, none⟩) 4 cb') [x0, x1, x2, x3] := ⟨some ⟨b', 0, none⟩, cb', rfl, by simp, fun l hl => ⟨_, rfl, by
                    rw [addr_add0]
                    have h4 : l < 4 := by simpa using hl
                    rw [World.ownsRow.cellAt hE l (by omega)]
                    have h5 : l = 0 ∨ l = 1 ∨ l = 2 ∨ l = 3 := by omega
                    rcases h5 with rfl | rfl | rfl | rfl <;> rfl⟩⟩
                  have hkqI : (k : Int) < ((Q ++ R).length : Int) := by omega
                  have HAS := hid (apSwap_any _ x0 x1 x2 x3 m wr hm4 HMD.out hIn)
                  have HQ := hid hQ
                  have HF := hid hF
                  have HSE := hid hSE
                  have HI := hid hI
                  have HALL := hid hall
                  have HPR := hid hPR
                  have HL := hid hL
                  have HM4 := hid hm4
                  obtain ⟨ql, hql⟩ : ∃ n, (Q ++ R).length = n := ⟨_, rfl⟩
                  rw [hql] at hkqI
                  have HQL := hid hql
                  rw [hql]
                  clear hQ hF hSE hI hall hPR hL hr hkus hE hu hIn hkl hget hql
                  go_wp2_with fail
                  refine HAS.out.mono ?_
                  rintro e w8 ⟨v8, rfl, ho8, hl8⟩
                  have hr8 := ho8.1
                  have hl4 : (swL [x0, x1, x2, x3] m).length = 4 := by simp [swL]
                  rw [hl4] at hr8
                  obtain ⟨n8, c8, rfl, hb8, _, _⟩ := rowForm hr8 (by omega)
                  have c8y : w8.cell? ⟨n8, m, none⟩ = some (.int .i64 (swN [x0, x1, x2, x3] m)) := by
                    rw [World.ownsRow.cellAt hr8 m (by have := HM4.out; omega)]
                    unfold swL
                    rw [List.getElem?_map, List.getElem?_set_self (by have := HM4.out; simpa using this)]
                    rfl
                  have f8y := World.ownsRow.frozenAt hr8 m
                  obtain ⟨y, hy⟩ : ∃ y, swN [x0, x1, x2, x3] m = y := ⟨_, rfl⟩
                  have h1 := tmod_in y 24 (by omega)
                  obtain ⟨r, hrr⟩ : ∃ r, y.tmod 24 = r := ⟨_, rfl⟩
                  obtain ⟨q, hqq⟩ : ∃ q, (r + 24).tmod 24 = q := ⟨_, rfl⟩
                  have hmd : md24 y = q := by unfold md24 remT; rw [hrr]; exact hqq
                  rw [hrr] at h1
                  have w1' : IntKind.i64.wrap (r + 24) = r + 24 := by rw [IntWalk.i64_left]; exact IntWalk.wrap64_in _ (by omega)
                  have hst := World.ownsRow.stored hr8 m (.int .i64 q)
                  have hset : ((swL [x0, x1, x2, x3] m).map (Value.int .i64)).set m (.int .i64 q) = (qsL (sw24 (x0, x1, x2, x3) m)).map (Value.int .i64) := by
                    rw [sw24_set HT24.out m HM4.out, hy, hmd, ← List.map_set]
                    unfold swL
                    rw [List.set_set]
                  rw [hset] at hst
                  rw [hy] at c8y
                  have HU := hid hst.1
                  have HLA := hid (show Later wr (w8.setCell ⟨n8, m, none⟩ (.int .i64 q)) from Below.setCell hl8 hb8 _)
                  have HUIN := hid (sw24_in (x0, x1, x2, x3) m)
                  have HURE := hid (Reach24.step _ (sw24 (x0, x1, x2, x3) m) HRT.out (by
                    have h4 : m = 0 ∨ m = 1 ∨ m = 2 ∨ m = 3 := by have := HM4.out; omega
                    unfold sws24
                    rcases h4 with rfl | rfl | rfl | rfl <;> simp))
                  have hm0 : (0 : Int) ≤ (m : Int) := by omega
                  have hmI : (m : Int) < 4 := by have := HM4.out; omega
                  obtain ⟨U, hU⟩ : ∃ U, sw24 (x0, x1, x2, x3) m = U := ⟨_, rfl⟩
                  have HUE := hid hU
                  rw [hU] at HU HUIN HURE
                  clear ho8 hl8 hr8 hl4 hst hset hy hmd hb8 hU hck HAS
                  go_wp2_with fail
                  generalize w8.setCell ⟨n8, m, none⟩ (.int .i64 q) = w9 at HU HLA ⊢
                  have hci := cd24_in HUIN.out
                  obtain ⟨C', hC'⟩ : ∃ C : Nat, cd24 (qsL U) 0 = (C : Int) := ⟨(cd24 (qsL U) 0).toNat, by omega⟩
                  have HI9 := hid (show Ints w9 (.slice (some ⟨n8, 0, none⟩) 4 c8) (qsL U) from ⟨some ⟨n8, 0, none⟩, c8, rfl, by simp [qsL], fun l hl => ⟨_, rfl, by
                    rw [addr_add0]
                    have h4 : l < 4 := by simpa [qsL] using hl
                    rw [World.ownsRow.cellAt HU.out l (by omega)]
                    have h5 : l = 0 ∨ l = 1 ∨ l = 2 ∨ l = 3 := by omega
                    rcases h5 with rfl | rfl | rfl | rfl <;> rfl⟩⟩)
                  have HAP := hid (apCode_any _ _ w9 rfl (fun x hx => by
                    obtain ⟨⟨a1, a2⟩, ⟨b1, b2⟩, ⟨c1, c2⟩, ⟨d1, d2⟩⟩ := HUIN.out
                    simp [qsL] at hx
                    rcases hx with rfl | rfl | rfl | rfl <;> omega) HI9.out)
                  rw [hC'] at HAP
                  refine HAP.out.mono ?_
                  rintro e w' ⟨rfl, rfl⟩
                  have hCN : C' < NB := by have := HNB.out; omega
                  have hCI : (C' : Int) < (NB : Int) := by omega
                  have hC0 : (0 : Int) ≤ (C' : Int) := by omega
                  have HF9 := hid (HF.out.later HLA.out)
                  have HQ9 := hid (show QIs S w9 (.slice (some ⟨g', 0, none⟩) ql cq') us' (Q ++ R) by rw [← HQL.out]; exact HQ.out.later HLA.out)
                  have HL9 := hid (HL.out.trans HLA.out)
                  have HPR9 := hid (ownsRow_keepQ HPR.out fun b hb => HLA.out.block b (HPR.out.lt b hb).2)
                  have hfl := HF9.out.at C' hCN
                  have hsee := HSE.out.2 U HUIN.out
                  rw [hC', Int.toNat_natCast] at hsee
                  have HC := hid hC'
                  have HCN := hid hCN
                  rw [hsee] at hfl
                  obtain ⟨fa, fb⟩ := hfl
                  clear hci hC' hsee c8y f8y h1 hrr hqq w1' hm0 hmI
                  by_cases hmem : U ∈ Q ++ R
                  · rw [decide_eq_true hmem] at fa
                    have HMEM := hid hmem
                    clear hmem
                    go_wp2_with fail
                    go_roundw
                    case rel => exact ⟨m + 1, R, us', bs', by go_num, HM4.out, HQ9.out, HF9.out, HSE.out, HI.out, fun l hl => by
                      by_cases e : l = m
                      · rw [e, HUE.out]; exact HMEM.out
                      · exact HALL.out l (by omega), HPR9.out, HL9.out⟩
                    case measure => have := HM4.out; simp [intOf]; omega
                  · rw [decide_eq_false hmem] at fa
                    have HMEM := hid hmem
                    clear hmem
                    have hset := HF9.out.set C'
                    obtain ⟨curS, hblk⟩ := HF9.out.block
                    have HFA := hid hset.1
                    have HQA := hid (HQ9.out.apart hset.2 hblk (by decide) (by decide))
                    have HLA2 := hid (show Later w (w9.setCell ⟨S, C', none⟩ (.bool true)) from Below.setCell HL9.out HSW.out _)
                    have HPA := hid (rowApart HPR9.out hset.2 hblk (by decide))
                    have HUA := hid (rowApart (World.ownsRow.mono HU.out (show S ≤ wr.heap.size by have := (HF.out.2.lt S rfl).2; omega)) hset.2 hblk (by decide))
                    clear hset hblk
                    obtain ⟨wA, hwA⟩ : ∃ wA, w9.setCell ⟨S, C', none⟩ (.bool true) = wA := ⟨_, rfl⟩
                    rw [hwA] at HFA HQA HLA2 HPA HUA
                    have HUL := hid (show us'.length = ql by rw [← HQL.out]; exact HQA.out.len)
                    have HRA := hid (show wA.ownsRow S 29 1 (.slice (some ⟨g', 0, none⟩) ql cq') ql us' by have h := HQA.out.row; rw [HUL.out] at h; exact h)
                    have HQB := hid (show ql ≤ 331776 by rw [← HQL.out]; exact HI.out.len HT0.out)
                    have HSA := hid (show S ≤ wA.heap.size by have := (HFA.out.2.lt S rfl).2; omega)
                    obtain ⟨ii, hii, hy0, hy1, hy2⟩ := info_parts Try.infoInts
                    go_wp2_with (at_builtin; refine wpList_append_own_at _ (by rfl) _ _ _ (by rfl) S 29 ii (.slice none 0 0) 1 24 Try.underlying22 hii hy0 hy1 hy2 rfl (by omega) (.slice (some ⟨g', 0, none⟩) ql cq') ql us' (by rfl) (by exact HRA.out.alloc (.cells #[.slice (some ⟨n8, 0, none⟩) 4 c8] 29)) ⟨wA.heap.size, 0, none⟩ 1 1 [.slice (some ⟨n8, 0, none⟩) 4 c8] (by rfl) (by rfl) (cell_one_new _ _ _) (by simp [Value.oneCell']) (by have := HQB.out; unfold maxLen; omega) (by have := HQB.out; omega) (by have := HSA.out; simp; omega) ?_; intro vB wB hownB hgrowB hnilB hlocB)
                    have hLal := Later.alloc wA (.cells #[.slice (some ⟨n8, 0, none⟩) 4 c8] 29)
                    have HQC := hid (show QIs S wB vB (us' ++ [.slice (some ⟨n8, 0, none⟩) 4 c8]) (Q ++ (R ++ [U])) by
                      rw [← List.append_assoc]
                      exact QIs.push (HQA.out.later hLal) (HUA.out.alloc _) hgrowB (by rw [HUL.out]; exact hownB))
                    have HFC := hid (FlagsAre.apart (us := us') (HFA.out.later hLal) (by rw [HUL.out]; exact HRA.out.alloc _) hgrowB)
                    have HPC := hid (intsApart (us := us') (HPA.out.alloc (.cells #[.slice (some ⟨n8, 0, none⟩) 4 c8] 29)) (by rw [HUL.out]; exact HRA.out.alloc _) hgrowB)
                    have HLC := hid (show Later w wB from Below.grown (HLA2.out.trans hLal) hgrowB (by have := HLA2.out.size; simp; omega) (fun j e => by have h1 := (HRA.out.lt j e).1; have := HSW.out; omega))
                    have HSC := hid (show SeenIs (bs'.set C' true) (Q ++ (R ++ [U])) by
                      have h := HSE.out.push HUIN.out
                      rw [HC.out, Int.toNat_natCast] at h
                      rw [← List.append_assoc]
                      exact h)
                    have HIC := hid (show InvQ t0 (Q ++ (R ++ [U])) k by
                      rw [← List.append_assoc]
                      exact HI.out.push HURE.out HMEM.out (by rw [List.length_append]; have := HKN.out; omega))
                    clear hownB hgrowB hLal hii hy0 hy1 hy2
                    go_roundw
                    case rel => exact ⟨m + 1, R ++ [U], _, _, by go_num, HM4.out, HQC.out, HFC.out, HSC.out, HIC.out, fun l hl => by
                      by_cases e : l = m
                      · rw [e, HUE.out]; simp
                      · have h := HALL.out l (by omega)
                        rw [← List.append_assoc]
                        exact List.mem_append.2 (.inl h), HPC.out, HLC.out⟩
                    case measure => have := HM4.out; simp [intOf]; omega
                · obtain rfl : m = 4 := by omega
                  have hkl : k < (Q ++ R).length := by rw [List.length_append]; have := HKN.out; omega
                  have hget : (Q ++ R)[k] = (x0, x1, x2, x3) := by rw [List.getElem_append_left HKN.out]; exact HTE.out
                  have HNI' := hid (hI.next hkl (fun u hu => by
                    rw [hget] at hu
                    unfold sws24 at hu
                    simp at hu
                    rcases hu with rfl | rfl | rfl | rfl
                    · exact hall 0 (by omega)
                    · exact hall 1 (by omega)
                    · exact hall 2 (by omega)
                    · exact hall 3 (by omega)))
                  have HTQ := hid (show P = putsZ [] (flatQ ((Q ++ R).take (k + 1))) by
                    rw [HP.out, List.take_append_of_le_length (by have := HKN.out; omega)])
                  have HKL := hid (show k + 1 ≤ (Q ++ R).length from hkl)
                  have HQ5 := hid hQ
                  have HF5 := hid hF
                  have HSE5 := hid hSE
                  have HPR5 := hid hPR
                  have HL5 := hid hL
                  have HKB := hid (show k < 331776 by have := HQN.out; have := HKN.out; omega)
                  clear hkl hget hQ hF hSE hI hall hPR hL hm hm4
                  have hwk : wrap64 ((k : Int) + 1) = (k : Int) + 1 := IntWalk.wrap64_in _ (by have := HKB.out; omega)
                  go_wp2_with fail
                  go_roundw
                  case rel => exact ⟨k + 1, Q ++ R, us', bs', P, by rw [show ((k + 1 : Nat) : Int) = (k : Int) + 1 from by omega]; simp only [hwk], HKL.out, HQ5.out, HTQ.out, HPR5.out, HF5.out, HNI'.out, HSE5.out, HL5.out⟩
                  case measure =>
                    rw [hwk]
                    exact measK k HKB.out
        · have hkI : ¬ (k : Int) < (Q.length : Int) := by omega
          have hOE : O = resL t0 := by
            rw [hO, List.take_of_length_le (by omega)]
            exact resL_puts HT0.out (hI.done (by omega))
          have HOE := hid hOE
          have HOR := hid hOR
          have HL := hid hL
          clear hQ hO hOR hF hI hSE hL hr hOE
          go_wp2_with fail
          go_ret2
          refine ⟨_, by rw [HT.out]; rfl, ?_, HL.out⟩
          have h := HOR.out
          rw [HOE.out] at h
          rw [HT.out]
          exact ⟨World.ownsRow.mono h HSW.out, fun j hj => (h.lt j hj).2⟩
set_option maxRecDepth 20000 in
set_option maxHeartbeats 4000000 in
theorem specResiduesOf_any (v : Value) (zs : List Int) (w : World) (h : Ints w v zs) :
    Calls Try.prog 10 #[v] w fun e w' => IntsAns w (resAns zs) e w' := by
  cases hg : apB zs
  · obtain ⟨p, cap, rfl, hl, _⟩ := id h
    have H := hid h
    have HG := hid hg
    have HA := hid (show resAns zs = none by unfold resAns; rw [hg]; simp)
    clear h hg
    go_enter Try.func10, Try.ntmps10
    go_wp2_with fail
    refine (apGood_as _ zs _ _ HG.out H.out).mono ?_
    rintro e w' ⟨rfl, rfl⟩
    go_wp2_with fail
    go_ret2
    rw [HA.out]
    exact ⟨_, rfl, OwnInts.nothing0 _ _ _, Later.refl _⟩
  · obtain ⟨a, b, c, d, rfl, hq⟩ := apB_four hg
    by_cases hG : gcdL [a, b, c, d] = 1
    · rw [show resAns [a, b, c, d] = some (resL (md4 a b c d)) from if_pos ⟨hg, hG⟩]
      exact specResiduesYes_any v a b c d w hg hG hq h
    · obtain ⟨p, cap, rfl, hl, _⟩ := id h
      have H := hid h
      have HG := hid hg
      have HA := hid (show resAns [a, b, c, d] = none from if_neg (fun hh => hG hh.2))
      have HQ := hid hq
      obtain ⟨G, hGe⟩ : ∃ G, gcdL [a, b, c, d] = G := ⟨_, rfl⟩
      rw [hGe] at hG
      have HSC := hid (fun (w0 : World) (h0 : Ints w0 (.slice p 4 cap) [a, b, c, d]) => show Calls Try.prog 24 #[.slice p 4 cap] w0 fun e w' => e = .returned (.int .i64 G) ∧ Later w0 w' from hGe ▸ apScale_any _ a b c d w0 HQ.out h0)
      have hbeq : (G == 1) = false := by simp [hG]
      clear h hg hq hGe
      go_enter Try.func10, Try.ntmps10
      go_wp2_with fail
      refine (apGood_as _ _ _ _ HG.out H.out).mono ?_
      rintro e w' ⟨rfl, rfl⟩
      go_wp2_with fail
      refine (HSC.out _ H.out).mono ?_
      rintro e w2 ⟨rfl, hL⟩
      have HL := hid hL
      clear hL
      go_wp2_with fail
      go_ret2
      rw [HA.out]
      exact ⟨_, rfl, OwnInts.nothing0 _ _ _, HL.out⟩
end

section
open Go.RowKit

set_option maxRecDepth 20000 in
set_option maxHeartbeats 4000000 in
theorem lawResiduesOf_gen (z0 : List Int) (o : Option (List Int)) (hob : (o.getD []).length ≤ 1000000000000)
    (hS : ∀ (v0 : Value) (w : World), Ints w v0 z0 → Calls Try.prog 10 #[v0] w fun e w' => IntsAns w o e w')
    (hI : ∀ (v0 : Value) (w : World), Ints w v0 z0 → Calls Try.prog 12 #[v0] w fun e w' => IntsAns w o e w')
    (v0 : Value) (w : World) (h0 : Ints w v0 z0) :
    Calls Try.prog 4 #[v0] w fun e w' => e = .returned (.bool true) ∧ Later w w' := by
  have HS := hid hS
  have HI := hid hI
  clear hS hI
  obtain ⟨a00, cap00, rfl, hlen0, _⟩ := id h0
  have H0 := hid h0
  clear h0
  by_cases hz0 : z0.length ≤ 1048576
  · skip
    have hq0 : ¬ (1048576 : Int) < (z0.length : Int) := by omega
    have HN0 := hid hz0
    go_enter Try.func4, Try.ntmps4
    go_wp2_with fail
    refine (toIntS_any _ z0 _ HN0.out H0.out).mono ?_
    rintro e w1 ⟨y1, rfl, hown, hL⟩
    obtain ⟨a1, cap1, rfl, _⟩ := hown.shape
    have O2 := hid hown
    clear hown
    have L3 := hid (hL)
    have S4 := hid hL.size
    clear hL
    go_wp2_with fail
    refine (HS.out _ _ (O2.out.ints)).mono ?_
    rintro e w5 ⟨y5, rfl, hown, hL⟩
    obtain ⟨a5, cap5, rfl, _⟩ := hown.shape
    have O6 := hid hown
    clear hown
    have O7 := hid (O2.out.later hL)
    have L8 := hid (L3.out.trans hL)
    have S9 := hid hL.size
    clear O2 L3 hL
    clear O7
    go_wp2_with fail
    refine (toIntS_any _ z0 _ HN0.out (H0.out.later L8.out)).mono ?_
    rintro e w10 ⟨y10, rfl, hown, hL⟩
    obtain ⟨a10, cap10, rfl, _⟩ := hown.shape
    have O11 := hid hown
    clear hown
    have O12 := hid (O6.out.later hL)
    have L13 := hid (L8.out.trans hL)
    have S14 := hid hL.size
    clear O6 L8 hL
    go_wp2_with fail
    refine (HI.out _ _ (O11.out.ints)).mono ?_
    rintro e w15 ⟨y15, rfl, hown, hL⟩
    obtain ⟨a15, cap15, rfl, _⟩ := hown.shape
    have O16 := hid hown
    clear hown
    have O17 := hid (O12.out.later hL)
    have O18 := hid (O11.out.later hL)
    have L19 := hid (L13.out.trans hL)
    have S20 := hid hL.size
    clear O12 O11 L13 hL
    have hne0 : ((o.isSome) != (o.isSome)) = false := by simp
    go_wp2_with fail
    refine (eqIntS_any _ _ _ _ _ (O16.out.ints) (O17.out.ints)).mono ?_
    rintro e w21 ⟨rfl, hD⟩
    have hL := hD.later
    clear hD
    rw [eqL_self]
    have O22 := hid (O17.out.later hL)
    have O23 := hid (O18.out.later hL)
    have O24 := hid (O16.out.later hL)
    have L25 := hid (L19.out.trans hL)
    have S26 := hid hL.size
    clear O17 O18 O16 L19 hL
    go_wp2_with fail
    refine (toIntS_any _ z0 _ HN0.out (H0.out.later L25.out)).mono ?_
    rintro e w27 ⟨y27, rfl, hown, hL⟩
    obtain ⟨a27, cap27, rfl, _⟩ := hown.shape
    have O28 := hid hown
    clear hown
    have O29 := hid (O22.out.later hL)
    have O30 := hid (O23.out.later hL)
    have O31 := hid (O24.out.later hL)
    have L32 := hid (L25.out.trans hL)
    have S33 := hid hL.size
    clear O22 O23 O24 L25 hL
    go_wp2_with fail
    refine (eqIntS_any _ _ _ _ _ (O30.out.ints) (O28.out.ints)).mono ?_
    rintro e w34 ⟨rfl, hD⟩
    have hL := hD.later
    clear hD
    rw [eqL_self]
    have O35 := hid (O29.out.later hL)
    have O36 := hid (O30.out.later hL)
    have O37 := hid (O31.out.later hL)
    have O38 := hid (O28.out.later hL)
    have L39 := hid (L32.out.trans hL)
    have S40 := hid hL.size
    clear O29 O30 O31 O28 L32 hL
    clear O38
    go_wp2_with fail
    refine (markIntS_any w5.heap.size (w10.heap.size) _ _ _ _ ⟨by omega, by omega⟩ O36.out).mono ?_
    rintro e w41 ⟨rfl, hown, hW⟩
    have hW := hW.mono (fun b hb => O36.out.blk hb)
    have hL := Later.refl w34
    have O42 := hid ((O35.out.later hL).keep fun b h1 h2 => hW.block b (by have := S4.out; have := S9.out; have := S14.out; have := S20.out; have := S26.out; have := S33.out; have := S40.out; omega))
    clear O35
    have O43 := hid ((O37.out.later hL).keep fun b h1 h2 => hW.block b (by have := S4.out; have := S9.out; have := S14.out; have := S20.out; have := S26.out; have := S33.out; have := S40.out; omega))
    clear O37
    have O44 := hid hown
    clear hown O36
    have L45 := hid (show Later w w41 from Wrote.below (L39.out.trans hL) hW (fun b hb => by have := S4.out; have := S9.out; have := S14.out; have := S20.out; have := S26.out; have := S33.out; have := S40.out; omega))
    clear L39
    have S46 := hid (show w34.heap.size ≤ w41.heap.size by have := hL.size; have := hW.size; omega)
    clear hL hW
    have hkn : ¬ ((1 : Int) + (z0.length : Int)) < 0 := by omega
    go_wp2_with fail
    refine (eqIntS_any _ _ _ _ _ (O43.out.ints) (O42.out.ints)).mono ?_
    rintro e w47 ⟨rfl, hD⟩
    have hL := hD.later
    clear hD
    rw [eqL_self]
    have O48 := hid (O42.out.later hL)
    have O49 := hid (O44.out.later hL)
    have O50 := hid (O43.out.later hL)
    have L51 := hid (L45.out.trans hL)
    have S52 := hid hL.size
    clear O42 O44 O43 L45 hL
    go_wp2_with fail
    have hmm : (((1 : Int) + ((o.getD []).length : Int)) != ((1 : Int) + ((o.getD []).length : Int))) = false := by simp
    have hmn : ¬ (1 : Int) + ((o.getD []).length : Int) < 0 := by omega
    refine (markIntS_any w10.heap.size (w15.heap.size) _ _ _ _ ⟨by omega, by omega⟩ O50.out).mono ?_
    rintro e w53 ⟨rfl, hown, hW⟩
    have hW := hW.mono (fun b hb => O50.out.blk hb)
    have hL := Later.refl w47
    have O54 := hid ((O48.out.later hL).keep fun b h1 h2 => hW.block b (by have := S4.out; have := S9.out; have := S14.out; have := S20.out; have := S26.out; have := S33.out; have := S40.out; have := S46.out; have := S52.out; omega))
    clear O48
    have O55 := hid ((O49.out.later hL).keep fun b h1 h2 => hW.block b (by have := S4.out; have := S9.out; have := S14.out; have := S20.out; have := S26.out; have := S33.out; have := S40.out; have := S46.out; have := S52.out; omega))
    clear O49
    have O56 := hid hown
    clear hown O50
    have L57 := hid (show Later w w53 from Wrote.below (L51.out.trans hL) hW (fun b hb => by have := S4.out; have := S9.out; have := S14.out; have := S20.out; have := S26.out; have := S33.out; have := S40.out; have := S46.out; have := S52.out; omega))
    clear L51
    have S58 := hid (show w47.heap.size ≤ w53.heap.size by have := hL.size; have := hW.size; omega)
    clear hL hW
    go_wp2_with fail
    refine (heldIntS_any _ (o.getD []).length _ _ ⟨by omega, by omega⟩ O56.out.ints).mono ?_
    rintro e w59 ⟨rfl, rfl⟩
    go_wp2_with fail
    refine (toIntS_any _ z0 _ HN0.out (H0.out.later L57.out)).mono ?_
    rintro e w60 ⟨y60, rfl, hown, hL⟩
    obtain ⟨a60, cap60, rfl, _⟩ := hown.shape
    have O61 := hid hown
    clear hown
    have O62 := hid (O54.out.later hL)
    have O63 := hid (O55.out.later hL)
    have O64 := hid (O56.out.later hL)
    have L65 := hid (L57.out.trans hL)
    have S66 := hid hL.size
    clear O54 O55 O56 L57 hL
    go_wp2_with fail
    refine (HI.out _ _ (O61.out.ints)).mono ?_
    rintro e w67 ⟨y67, rfl, hown, hL⟩
    obtain ⟨a67, cap67, rfl, _⟩ := hown.shape
    have O68 := hid hown
    clear hown
    have O69 := hid (O62.out.later hL)
    have O70 := hid (O63.out.later hL)
    have O71 := hid (O64.out.later hL)
    have O72 := hid (O61.out.later hL)
    have L73 := hid (L65.out.trans hL)
    have S74 := hid hL.size
    clear O62 O63 O64 O61 L65 hL
    clear O72
    go_wp2_with fail
    refine (eqIntS_any _ _ _ _ _ (O68.out.ints) (O69.out.ints)).mono ?_
    rintro e w75 ⟨rfl, hD⟩
    have hL := hD.later
    clear hD
    rw [eqL_self]
    have O76 := hid (O69.out.later hL)
    have O77 := hid (O70.out.later hL)
    have O78 := hid (O71.out.later hL)
    have O79 := hid (O68.out.later hL)
    have L80 := hid (L73.out.trans hL)
    have S81 := hid hL.size
    clear O69 O70 O71 O68 L73 hL
    go_wp2_with fail
    refine (heldIntS_any _ (o.getD []).length _ _ ⟨by omega, by omega⟩ O78.out.ints).mono ?_
    rintro e w82 ⟨rfl, rfl⟩
    go_wp2_with fail
    go_ret
    exact ⟨rfl, L80.out⟩
  · have hq0 : (1048576 : Int) < (z0.length : Int) := by omega
    go_enter Try.func4, Try.ntmps4
    go_wp2_with fail
    go_ret
    exact ⟨rfl, Later.refl w⟩
end
end Go.Proofs.Ytpkdikfjcbmcbac
