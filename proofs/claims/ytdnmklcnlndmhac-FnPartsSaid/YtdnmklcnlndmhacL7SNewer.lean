/-
  Contract: spec.l7Newer.
-/
import Derived.Test.YtdnmklcnlndmhacL7SLast
namespace Go.Proofs.Ytdnmklcnlndmhac.L7
open Go.RowKit L1
set_option linter.unusedVariables false

set_option maxRecDepth 100000 in
set_option maxHeartbeats 2000000 in
theorem l7Newer_any (a b : Option Addr) (l m : List En) (n c1 k c2 : Nat) (w : World) (hn : l.length = n) (hs : SlE w a l) (hn2 : n ≤ 1048576) (hk : m.length = k) (ht : SlE w b m) (hk2 : k ≤ 1048576) (bb : Bool) (hbb : bb = true ↔ NewE l m) :
    Calls Try.prog 36 #[.slice a n c1, .slice b k c2] w fun e w' => e = .returned (.bool bb) ∧ w = w' := by
  obtain ⟨x, hx⟩ : ∃ x, lastE l = x := ⟨_, rfl⟩
  obtain ⟨y, hy⟩ : ∃ y, lastE m = y := ⟨_, rfl⟩
  have CA := hide (l7Last_any a l n c1 w hn hs hn2 x hx)
  have CB := hide (l7Last_any b m k c2 w hk ht hk2 y hy)
  unfold NewE at hbb
  rw [hx, hy, hn, hk] at hbb
  clear hx hy hs ht hn hk
  by_cases h1 : y < x
  · obtain rfl : bb = true := hbb.2 (.inl h1)
    clear hbb
    go_enter Try.func36, Try.ntmps36
    go_wp2_with fail
    refine CA.out.mono ?_
    rintro e w1 ⟨rfl, rfl⟩
    go_wp2_with fail
    refine CB.out.mono ?_
    rintro e w1 ⟨rfl, rfl⟩
    go_wp2
    go_ret
    exact ⟨rfl, rfl⟩
  · by_cases h2 : x = y
    · subst h2
      have h2' : (x == x) = true := by simp
      by_cases h3 : (k : Int) < (n : Int)
      · obtain rfl : bb = true := hbb.2 (.inr ⟨rfl, by omega⟩)
        clear hbb
        go_enter Try.func36, Try.ntmps36
        go_wp2_with fail
        refine CA.out.mono ?_
        rintro e w1 ⟨rfl, rfl⟩
        go_wp2_with fail
        refine CB.out.mono ?_
        rintro e w1 ⟨rfl, rfl⟩
        go_wp2_with fail
        refine CA.out.mono ?_
        rintro e w1 ⟨rfl, rfl⟩
        go_wp2_with fail
        refine CB.out.mono ?_
        rintro e w1 ⟨rfl, rfl⟩
        go_wp2
        go_ret
        exact ⟨by first | rfl | (simp; omega), rfl⟩
      · obtain rfl : bb = false := bool_noT hbb (by omega)
        clear hbb
        go_enter Try.func36, Try.ntmps36
        go_wp2_with fail
        refine CA.out.mono ?_
        rintro e w1 ⟨rfl, rfl⟩
        go_wp2_with fail
        refine CB.out.mono ?_
        rintro e w1 ⟨rfl, rfl⟩
        go_wp2_with fail
        refine CA.out.mono ?_
        rintro e w1 ⟨rfl, rfl⟩
        go_wp2_with fail
        refine CB.out.mono ?_
        rintro e w1 ⟨rfl, rfl⟩
        go_wp2
        go_ret
        exact ⟨by first | rfl | (simp; omega), rfl⟩
    · have h2' : (x == y) = false := by simpa using h2
      obtain rfl : bb = false := bool_noT hbb (by omega)
      clear hbb h2
      go_enter Try.func36, Try.ntmps36
      go_wp2_with fail
      refine CA.out.mono ?_
      rintro e w1 ⟨rfl, rfl⟩
      go_wp2_with fail
      refine CB.out.mono ?_
      rintro e w1 ⟨rfl, rfl⟩
      go_wp2_with fail
      refine CA.out.mono ?_
      rintro e w1 ⟨rfl, rfl⟩
      go_wp2_with fail
      refine CB.out.mono ?_
      rintro e w1 ⟨rfl, rfl⟩
      go_wp2
      go_ret
      exact ⟨by first | rfl | (simp; omega), rfl⟩
end Go.Proofs.Ytdnmklcnlndmhac.L7
