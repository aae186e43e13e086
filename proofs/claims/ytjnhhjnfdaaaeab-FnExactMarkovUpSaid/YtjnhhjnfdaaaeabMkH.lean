/- Triples modulo a prime number: isModTriple (the program). -/
import Derived.Test.YtjnhhjnfdaaaeabMkH2
namespace Go.Proofs.Ytjnhhjnfdaaaeab
open Go.RowKit

set_option maxRecDepth 20000 in
set_option maxHeartbeats 4000000 in
theorem isModTriple_any (p : Int) (v : Value) (zs : List Int) (w : World) (h64 : I64 p) (h : Ints w v zs) :
    Calls Try.prog 70 #[.int .i64 p, v] w fun e w' => e = .returned (.bool (modOk p zs)) ∧ Later w w' := by
  have hb0 : (w.alloc (.cells #[.int .i64 p] 3)).cell? ⟨w.heap.size, 0, none⟩ = some (.int .i64 p) := by simp [go_sem]
  have HL := hid (Later.alloc w (.cells #[.int .i64 p] 3))
  have H := hid (h.later HL.out)
  have h64' := h64.1
  cases hp : prime13 p
  · have HA := hid (show modOk p zs = false by unfold modOk; rw [hp]; rfl)
    have HP := hid hp
    obtain ⟨a, cap, rfl, hl, _⟩ := id h
    clear hp h h64
    go_enter Try.func70, Try.ntmps70
    go_wp2_with fail
    generalize w.alloc (.cells #[.int .i64 p] 3) = w1 at hb0 HL H ⊢
    refine (isModulus_as p false _ HP.out h64').mono ?_
    rintro e w' ⟨rfl, rfl⟩
    go_wp2_with fail
    go_ret
    exact ⟨ret_bool HA.out.symm, HL.out⟩
  · have HP := hid hp
    have hpp := prime13_in hp
    by_cases h3 : zs.length = 3
    · obtain ⟨x, y, z, ad, cap, rfl, rfl, c0, c1, c2⟩ := (h.later HL.out).three h3
      have ha := arrayAt3 ad cap
      have hA0 := show modOk p [x, y, z] = (within 0 (p - 1) x && (within 0 (p - 1) y && (within 0 (p - 1) z && modT p x y z))) by
        unfold modOk; rw [hp, modGood3]; simp [Bool.and_assoc]
      have HH := hid h
      clear h h3 hp h64
      cases hx : within 0 (p - 1) x
      · have HA := hid (show modOk p [x, y, z] = false by rw [hA0, hx]; rfl)
        clear hA0
        go_enter Try.func70, Try.ntmps70
        go_wp2_with fail
        generalize w.alloc (.cells #[.int .i64 p] 3) = w1 at hb0 HL H c0 c1 c2 ⊢
        refine (isModulus_as p true _ HP.out h64').mono ?_
        rintro e w' ⟨rfl, rfl⟩
        go_wp2_with fail
        go_quiet (first | (go_at_call 107; exact Calls.quiet_of_same ((isRem_in p _ w.heap.size _ ((Later.drewN w1 _).cell hb0)).mono fun _ _ h => ⟨h.1, h.2.symm⟩)))
        go_wp2_with fail
        go_ret
        exact ⟨ret_bool HA.out.symm, HL.out.trans (Later.drewN _ _)⟩
      · cases hy : within 0 (p - 1) y
        · have HA := hid (show modOk p [x, y, z] = false by rw [hA0, hx, hy]; rfl)
          clear hA0
          go_enter Try.func70, Try.ntmps70
          go_wp2_with fail
          generalize w.alloc (.cells #[.int .i64 p] 3) = w1 at hb0 HL H c0 c1 c2 ⊢
          refine (isModulus_as p true _ HP.out h64').mono ?_
          rintro e w' ⟨rfl, rfl⟩
          go_wp2_with fail
          go_quiet (first | (go_at_call 107; exact Calls.quiet_of_same ((isRem_in p _ w.heap.size _ ((Later.drewN w1 _).cell hb0)).mono fun _ _ h => ⟨h.1, h.2.symm⟩)))
          go_wp2_with fail
          go_ret
          exact ⟨ret_bool HA.out.symm, HL.out.trans (Later.drewN _ _)⟩
        · cases hz : within 0 (p - 1) z
          · have HA := hid (show modOk p [x, y, z] = false by rw [hA0, hx, hy, hz]; rfl)
            clear hA0
            go_enter Try.func70, Try.ntmps70
            go_wp2_with fail
            generalize w.alloc (.cells #[.int .i64 p] 3) = w1 at hb0 HL H c0 c1 c2 ⊢
            refine (isModulus_as p true _ HP.out h64').mono ?_
            rintro e w' ⟨rfl, rfl⟩
            go_wp2_with fail
            go_quiet (first | (go_at_call 107; exact Calls.quiet_of_same ((isRem_in p _ w.heap.size _ ((Later.drewN w1 _).cell hb0)).mono fun _ _ h => ⟨h.1, h.2.symm⟩)))
            go_wp2_with fail
            go_ret
            exact ⟨ret_bool HA.out.symm, HL.out.trans (Later.drewN _ _)⟩
          · have HA := hid (show modOk p [x, y, z] = modT p x y z by rw [hA0, hx, hy, hz]; rfl)
            rw [HA.out]
            exact isModTriple_yes p x y z ad cap w h64' HP.out HH.out hx hy hz
    · have HA := hid (show modOk p zs = false by unfold modOk modGood; rw [decide_eq_false h3]; simp)
      obtain ⟨a, cap, rfl, hl, _⟩ := id h
      have hn : ((zs.length : Int) != 3) = true := by simp; omega
      clear hp h h64 h3
      go_enter Try.func70, Try.ntmps70
      go_wp2_with fail
      generalize w.alloc (.cells #[.int .i64 p] 3) = w1 at hb0 HL H ⊢
      refine (isModulus_as p true _ HP.out h64').mono ?_
      rintro e w' ⟨rfl, rfl⟩
      go_wp2_with fail
      go_ret
      exact ⟨ret_bool HA.out.symm, HL.out⟩
end Go.Proofs.Ytjnhhjnfdaaaeab
