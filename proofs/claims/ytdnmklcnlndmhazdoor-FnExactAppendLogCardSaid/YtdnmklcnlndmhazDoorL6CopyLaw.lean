/-
  'copy' of pieces, each of three cells, into a row that is owned whole. Nothing of the program's text is proved here but closed facts on its types.
-/
import Derived.Test.YtdnmklcnlndmhazDoorL6Eq
import Derived.Laws.CopyOwn
import Derived.Maps.AppendAt
import Derived.Deep.Upon
namespace Go.Proofs.YtdnmklcnlndmhazDoor.L6
open Go.RowKit L1
set_option linter.unusedVariables false

theorem run_copy_k (P : Program) (w : World) (dT sT ty elem : TypeId) (g o dLen dCap k : Nat) (a : Addr) (sLen sCap m : Nat) (cur : Array Value) (t : TypeId) (cs : List Value)
    (hu : P.underlying dT = some (.slice elem)) (hs : (P.info? elem).map (·.size) = some k)
    (hg : w.heap[g]? = some (.cells cur t (0, 0))) (hm : m = Nat.min sLen dLen) (hn : cs.length = m * k)
    (hsrc : ∀ j v, cs[j]? = some v → w.cell? (a.add j) = some v) (hfit : o + cs.length ≤ cur.size) (h1 : ∀ v ∈ cs, v.oneCell' = true) :
    (Builtin.copy_ #[dT, sT] ty #[.slice (some ⟨g, o, none⟩) dLen dCap, .slice (some a) sLen sCap]).run P w =
      .ok (goInt m) (w.setRow g (cur.toList.take o ++ cs ++ cur.toList.drop (o + cs.length)).toArray) := by
  have hl := run_loadCells_list (P := P) w a cs hsrc
  have hst := run_storeCells_at P g o t cs 0 cur w hg (by simpa using hfit) h1
  rw [hn] at hl
  cases hq : P.info? elem with
  | none => simp [hq] at hs
  | some i =>
    have hi : i.size = k := by simpa [hq] using hs
    simp [Builtin.copy_, run_underlying hu, Builtin.lenOf, Builtin.firstCells, sizeOf, typeInfo, hq, hi, ← hm, hl, hst]
/-- The same, the whole row written over: what is owned behind it. -/
theorem run_copy_all (P : Program) (w : World) (dT sT ty elem : TypeId) (k : Nat) (hu : P.underlying dT = some (.slice elem)) (hsz : (P.info? elem).map (·.size) = some k)
    (base g n : Nat) (ad : Addr) (sCap : Nat) (xs : List Value) (hown : w.ownsRow base elem k (.slice (some ⟨g, 0, none⟩) n n) n xs) (cs : List Value) (hn : cs.length = n * k)
    (hsrc : ∀ j v, cs[j]? = some v → w.cell? (ad.add j) = some v) (h1 : ∀ v ∈ cs, v.oneCell' = true) :
    ∃ w', (Builtin.copy_ #[dT, sT] ty #[.slice (some ⟨g, 0, none⟩) n n, .slice (some ad) n sCap]).run P w = .ok (goInt n) w' ∧ w'.ownsRow base elem k (.slice (some ⟨g, 0, none⟩) n n) n cs ∧ w.grownBy w' (some g) := by
  obtain ⟨hl, h2⟩ := hown
  rcases h2 with ⟨hv, _⟩ | ⟨g', cap', cur, hv, hbg, hg, hc1, hc2, hc3, hc4⟩
  · cases hv
  · simp at hv
    obtain ⟨rfl, rfl⟩ := hv
    have hcs : cur.size = cs.length := by rw [hc3, hn]
    have hdrop : cur.toList.drop (0 + cs.length) = [] := List.drop_eq_nil_of_le (by simp; omega)
    refine ⟨_, run_copy_k P w dT sT ty elem g 0 n n k ad n sCap n cur elem cs hu hsz hg (by simp) hn hsrc (by omega) h1, ⟨hn, .inr ⟨g, n, _, rfl, hbg, setRow_heap w g cur _ elem _ hg, Nat.le_refl _, hc2, ?_, ?_⟩⟩, ⟨rfl, rfl, rfl, by simp [World.setRow], fun q hq hne => setRow_other w g q _ (fun e => hne (by rw [e]))⟩⟩
    · rw [hdrop]
      simp
      exact hn
    · rw [hdrop]
      simp
      first
        | exact Nat.le_of_eq hn
        | exact List.take_of_length_le (Nat.le_of_eq hn)
theorem app_none (t ty : TypeId) (ht : Tryd.prog.underlying t = some (.slice 3)) (base ax : Option Addr) (n cap c : Nat) (h : n ≤ cap) (w : World) :
    (Builtin.append_ #[t, t] ty #[.slice base n cap, .slice ax 0 c]).run Tryd.prog w = .ok (.slice base n cap) w := by
  obtain ⟨i1, hi1, _, _, _⟩ := info_parts info_int
  refine run_append_nothing w t t ty 3 i1 ht hi1 base n cap h _ ?_
  cases ax with
  | none => exact Src.ofNil _ ht c
  | some x => exact Src.ofSlice _ ht x 0 c [] (by simp) (fun j u hu => by simp at hu) (fun u hu => by simp at hu)
theorem sl_cells6 {w : World} {b off : Nat} {xs : List Int} (h : Sl w (some ⟨b, off, none⟩) xs) : ∀ j u, (xs.map (Value.int .i64))[j]? = some u → w.cell? ((⟨b, off, none⟩ : Addr).add j) = some u := fun j u hu => by
  have hj : j < xs.length := by
    by_cases hj : j < xs.length
    · exact hj
    · rw [List.getElem?_eq_none (by simp; omega)] at hu; cases hu
  rw [add_at6, h.at j hj]
  rw [List.getElem?_map, List.getElem?_eq_getElem hj] at hu
  simp at hu
  rw [← hu]
  simp [List.getD, List.getElem?_eq_getElem hj]
/-- 'append' of a list behind an empty one that is the call's own: a copy in new memory. -/
theorem wpList_append_copy {ops : Array Oper} {rest : List Oper} {o : Oper} {a : Act} {Q : Exit → Act → World → Prop} {w : World} (hgd : o.guard = none) (s x : Operand)
    (ho : o.op = .call { callee := .builtin .append, args := #[s, x], argTypes := #[49, 49] })
    (base : Nat) (ad ax : Option Addr) (cd n c : Nat) (xs : List Int) (hxs : xs.length = n) (hn2 : n ≤ 1048576) (hs : a.eval s = .slice ad 0 cd) (hown : w.ownsRow base 3 1 (.slice ad 0 cd) 0 []) (hx : a.eval x = .slice ax n c) (hsl : Sl w ax xs) (hbase : base ≤ w.heap.size)
    (h : ∀ a' c' w', w'.ownsRow base 3 1 (.slice a' n c') n (xs.map (Value.int .i64)) → w.grownBy w' (Value.slice ad 0 cd).ownBlock → ((Value.slice a' n c').ownBlock = (Value.slice ad 0 cd).ownBlock ∨ (Value.slice a' n c').ownBlock = some w.heap.size) → wpList Tryd.prog ops Q rest (a.put o.dst (.slice a' n c')) w') : wpList Tryd.prog ops Q (o :: rest) a w := by
  by_cases h0 : n = 0
  · subst h0
    have hx0 : xs = [] := List.eq_nil_of_length_eq_zero hxs
    subst hx0
    refine wpList_plain hgd fun K hK => ?_
    unfold Oper.wp execOp
    simp only [ho, resolve, invoke, builtin, Sem.run_bind, Sem.run_pure, Result.andThen_ok, List.map_toArray, List.map_cons, List.map_nil, hs, hx, app_none 49 o.type Tryd.underlying49 ad ax 0 cd c (Nat.zero_le _) w]
    exact hK _ _ (h ad cd w hown (World.grownBy.refl _ _) (.inl rfl))
  · obtain ⟨i0, hi, hz0, hz1, hz2⟩ := info_parts info_int
    obtain ⟨b, off, rfl, _⟩ := hsl 0 (by omega)
    refine wpList_append_own_at w hgd s x 49 ho base 3 i0 (.int .i64 0) 1 8 Tryd.underlying49 hi hz0 hz1 hz2 rfl (by decide) (.slice ad 0 cd) 0 [] hs hown ⟨b, off, none⟩ n c (xs.map (Value.int .i64)) hx (by simp; omega) (sl_cells6 hsl) (by intro u hu; obtain ⟨y, _, rfl⟩ := List.mem_map.1 hu; rfl) (by unfold maxLen; omega) (by omega) hbase ?_
    intro v' w' h1 h2 _ h4
    rw [Nat.zero_add, List.nil_append] at h1
    obtain ⟨a', c', rfl, _, _⟩ := own_form h1
    exact h a' c' w' h1 h2 h4
end Go.Proofs.YtdnmklcnlndmhazDoor.L6
