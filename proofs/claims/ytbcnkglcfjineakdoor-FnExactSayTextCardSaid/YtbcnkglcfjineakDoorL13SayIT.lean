/-
  Contract: impl.SayText.
-/
import Derived.Test.YtbcnkglcfjineakDoorL13SayI
namespace Go.Proofs.YtbcnkglcfjineakDoor.L13
open Go.RowKit L1
set_option linter.unusedVariables false

set_option maxRecDepth 100000 in
set_option maxHeartbeats 1000000 in
theorem implSayText_any (s : ByteArray) (x y : Int) (w : World) (hs : s.size ≤ 9223372036854775807) (ht : Pow10 w) (t : ByteArray) (ok : Bool) (hok : ok = true ↔ okSay s x y) (htx : t = if ok then sayT s x y else ByteArray.empty) :
    Calls Tryd.prog 10 #[.agg #[.string s, .int .i64 x, .int .i64 y]] w fun e w' => e = .returned (.tuple #[.string t, .bool ok]) ∧ Below w.heap.size w w' := by
  have CG := hide (fun w => goodSay_any s x y w hs ok hok)
  cases ok with
  | true =>
    have h := hok.1 rfl
    obtain rfl : t = sayT s x y := htx
    have CT := hide (fun wx (hb : Below w.heap.size w wx) => implsayText_any s x y wx h.1.1.2 h.2.1 h.2.2.1 h.2.2.2.1 h.2.2.2.2 (ht.below hb))
    obtain ⟨E, hE⟩ : ∃ E, E = sayT s x y := ⟨_, rfl⟩
    rw [← hE] at CT ⊢
    clear hok h hE ht
    go_enter Tryd.func10, Tryd.ntmps10
    go_wp2_with fail
    refine (CG.out _).mono ?_
    rintro e w1 ⟨rfl, hb⟩
    obtain ⟨k0, k1, k2⟩ := blk3s ((hb.block w.heap.size (by simp)).trans (L8.blk_new w (syO 27 s x y)))
    have B1 := hide (((Below.refl w.heap.size w).alloc (Nat.le_refl _) (syO 27 s x y)).trans (hb.mono (by simp)))
    clear hb
    go_wp2_with fail
    refine (CT.out _ B1.out).mono ?_
    rintro e w2 ⟨rfl, hb⟩
    have B2 := hide (B1.out.trans (hb.mono B1.out.size))
    clear hb
    go_wp2
    go_ret2
    exact ⟨rfl, B2.out⟩
  | false =>
    obtain rfl : t = ByteArray.empty := htx
    clear hok ht
    go_enter Tryd.func10, Tryd.ntmps10
    go_wp2_with fail
    refine (CG.out _).mono ?_
    rintro e w1 ⟨rfl, hb⟩
    have B1 := hide (((Below.refl w.heap.size w).alloc (Nat.le_refl _) (syO 27 s x y)).trans (hb.mono (by simp)))
    clear hb
    go_wp2
    go_ret2
    exact ⟨rfl, B1.out⟩
end Go.Proofs.YtbcnkglcfjineakDoor.L13
