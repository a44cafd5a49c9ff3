/- slices.Delete of one of a row of episodes of one's own. -/
import Derived.Test.YtenioeppmgmdiaaCl
import Derived.Deep.RegionLaw
import Derived.Lib.SliceRun
namespace Go.Proofs.Ytenioeppmgmdiaa
open Go.RowKit
set_option linter.unusedVariables false
set_option linter.unusedSimpArgs false
set_option maxRecDepth 100000

/-- 'clear' of a slice of one element, whatever its size. -/
theorem run_clear_one {P : Program} (w : World) (t e ty : TypeId) (z : Value) (ht : P.underlying t = some (.slice e)) (hv : ∀ w, (zeroValue e).run P w = .ok z w) (h1 : ∀ v ∈ z.cells.toList, v.oneCell' = true) (b o c : Nat)
    (hc : ∀ j, j < z.cells.toList.length → (w.cell? ⟨b, o + j, none⟩).isSome = true) (hf : ∀ j, j < z.cells.toList.length → w.frozen? ⟨b, o + j, none⟩ = false) :
    (Builtin.clear_ #[t] ty #[.slice (some ⟨b, o, none⟩) 1 c]).run P w = .ok (.tuple #[]) (w.setCells b o z.cells.toList) := by
  have hzc : (Builtin.zeroCells z.cells 1).toList = z.cells.toList := by
    simp only [Builtin.zeroCells]
    apply List.ext_getElem
    · simp
    · intro i h1 h2
      have h2' : i < z.cells.size := by simpa using h2
      rw [Array.getElem_toList, Array.getElem_toList, Array.getElem_map, Array.getElem_range, Nat.mod_eq_of_lt h2', getElem!_pos z.cells i h2']
  have hst := run_storeCells_cells (P := P) b o z.cells.toList 0 w (by simpa using hc) (by simpa using hf) h1
  simp only [Nat.add_zero] at hst
  simp [Builtin.clear_, run_underlying ht, hv, hzc, hst]
theorem own_setks {base g cap n size : Nat} {e : TypeId} : ∀ (vs : List Value) (o : Nat) {w : World} {xs : List Value}, w.ownsRow base e size (.slice (some ⟨g, 0, none⟩) n cap) n xs → o + vs.length ≤ n * size →
    (w.setCells g o vs).ownsRow base e size (.slice (some ⟨g, 0, none⟩) n cap) n (xs.take o ++ vs ++ xs.drop (o + vs.length))
  | [], o, w, xs, h, _ => by simpa [World.setCells] using h
  | v :: r, o, w, xs, h, hl => by
    simp only [List.length_cons] at hl
    have h1 := own_setks r (o + 1) (own_setk h (i := o) (by omega) v).2.2.1 (by omega)
    have hx : o < xs.length := by have := h.1; omega
    have e1 : (xs.set o v).take (o + 1) = xs.take o ++ [v] := by
      rw [List.take_add_one, List.take_set_of_le (Nat.le_refl _)]
      simp [hx]
    have e2 : (xs.set o v).drop (o + 1 + r.length) = xs.drop (o + 1 + r.length) := List.drop_set_of_lt (by omega)
    rw [e1, e2] at h1
    simp only [World.setCells, List.length_cons]
    simpa [Nat.add_assoc, Nat.add_comm, Nat.add_left_comm] using h1
theorem sps_setCells {w : World} {base g : Nat} {t : TypeId} {v : Value} {l : List Ls} (h1 : t ≠ 42) (h2 : t ≠ 64) : ∀ (vs : List Value) (o : Nat) {w : World} {cs : Array Value}, OwnSps w base v l → w.heap[g]? = some (.cells cs t (0, 0)) → OwnSps (w.setCells g o vs) base v l
  | [], _, _, _, h, _ => h
  | u :: r, o, w, cs, h, hg => sps_setCells h1 h2 (w := w) r (o + 1) (OwnSps.else (p := ⟨g, o, none⟩) h hg h1 h2 u) (heap_setCell_same w g o cs t u hg)
theorem Below.setCells {B g : Nat} {a : World} (hg : B ≤ g) : ∀ (vs : List Value) (o : Nat) {w : World}, Below B a w → Below B a (w.setCells g o vs)
  | [], _, _, h => h
  | u :: r, o, _, h => Below.setCells hg r (o + 1) (h.setCell hg u)
/-- What a cleared episode is. -/
def zE : List Value := [.int .u64 0, .int .u64 0, .int .i64 0, .int .i64 0, .bool false, .slice none 0 0]
/-- The world behind one is taken out. -/
def delW (w : World) (g i n : Nat) (xs : List Value) : World := (w.drew.setCells g (i * 6) (xs.drop ((i + 1) * 6))).setCells g ((n - 1) * 6) zE
theorem flat_drop (l : List Le) : ∀ k, (l.flatMap Le.cells).drop (k * 6) = (l.drop k).flatMap Le.cells := by
  induction l with
  | nil => intro k; simp
  | cons x r ih =>
    intro k
    cases k with
    | zero => simp
    | succ k =>
      rw [List.flatMap_cons, List.drop_succ_cons, ← ih k, List.drop_append]
      have h6 : x.cells.length = 6 := rfl
      rw [h6, List.drop_of_length_le (by rw [h6]; omega), List.nil_append, show (k + 1) * 6 - 6 = k * 6 by omega]
theorem flat_take (l : List Le) : ∀ k, (l.flatMap Le.cells).take (k * 6) = (l.take k).flatMap Le.cells := by
  induction l with
  | nil => intro k; simp
  | cons x r ih =>
    intro k
    cases k with
    | zero => simp
    | succ k =>
      rw [List.flatMap_cons, List.take_succ_cons, List.flatMap_cons, ← ih k, List.take_append]
      have h6 : x.cells.length = 6 := rfl
      rw [h6, List.take_of_length_le (by rw [h6]; omega), show (k + 1) * 6 - 6 = k * 6 by omega]
theorem drewB (w : World) : Below w.heap.size w w.drew := ⟨rfl, rfl, rfl, Nat.le_refl _, fun _ _ => rfl⟩
theorem own_shrink {w : World} {base g cap n m size : Nat} {e : TypeId} {xs : List Value} (h : w.ownsRow base e size (.slice (some ⟨g, 0, none⟩) n cap) n xs) (hm : m ≤ n) : w.ownsRow base e size (.slice (some ⟨g, 0, none⟩) m cap) m (xs.take (m * size)) := by
  rcases h.2 with ⟨h0, _⟩ | ⟨g', cap', cur, hv, hb, hg, hnc, hcm, hcs, htake⟩
  · cases h0
  · simp only [Value.slice.injEq, Option.some.injEq, Addr.mk.injEq] at hv
    obtain ⟨⟨rfl, _⟩, _, rfl⟩ := hv
    have hms : m * size ≤ n * size := Nat.mul_le_mul_right _ hm
    refine ⟨by rw [List.length_take, h.1]; omega, .inr ⟨g, cap, cur, rfl, hb, hg, Nat.le_trans hm hnc, hcm, hcs, ?_⟩⟩
    rw [← htake, List.take_take, Nat.min_eq_left hms]
theorem OwnEps.del {w : World} {base g n c : Nat} {l : List Le} (h : OwnEps w base (.slice (some ⟨g, 0, none⟩) n c) l) (hn : n = l.length) {i : Nat} (hi : i < n) :
    OwnEps (delW w g i n (l.flatMap Le.cells)) base (.slice (some ⟨g, 0, none⟩) (n - 1) c) (l.eraseIdx i) ∧ Below base w (delW w g i n (l.flatMap Le.cells)) ∧ (∀ (v : Value) (ls : List Ls), OwnSps w base v ls → OwnSps (delW w g i n (l.flatMap Le.cells)) base v ls) := by
  obtain ⟨hbg, hgl, cs, hcs⟩ := own_row_block h hn
  subst hn
  have hlen : (l.flatMap Le.cells).length = l.length * 6 := flatMap_len _ 6 ecells_len l
  have hdl : ((l.flatMap Le.cells).drop ((i + 1) * 6)).length = (l.length - (i + 1)) * 6 := by rw [List.length_drop, hlen]; omega
  have h1 := own_setks ((l.flatMap Le.cells).drop ((i + 1) * 6)) (i * 6) (own_drew h.own) (by rw [hdl]; omega)
  have h2 := own_setks zE ((l.length - 1) * 6) h1 (by have : zE.length = 6 := rfl; omega)
  have h3 := own_shrink h2 (m := l.length - 1) (by omega)
  have hel : (l.eraseIdx i).length = l.length - 1 := List.length_eraseIdx_of_lt hi
  have hex : ((((l.flatMap Le.cells).take (i * 6) ++ (l.flatMap Le.cells).drop ((i + 1) * 6) ++ (l.flatMap Le.cells).drop (i * 6 + ((l.flatMap Le.cells).drop ((i + 1) * 6)).length)).take ((l.length - 1) * 6) ++ zE ++ ((l.flatMap Le.cells).take (i * 6) ++ (l.flatMap Le.cells).drop ((i + 1) * 6) ++ (l.flatMap Le.cells).drop (i * 6 + ((l.flatMap Le.cells).drop ((i + 1) * 6)).length)).drop ((l.length - 1) * 6 + 6)).take ((l.length - 1) * 6)) = (l.eraseIdx i).flatMap Le.cells := by
    have hA : ((l.flatMap Le.cells).take (i * 6) ++ (l.flatMap Le.cells).drop ((i + 1) * 6)).length = (l.length - 1) * 6 := by rw [List.length_append, hdl, List.length_take, hlen]; omega
    rw [List.take_append_of_le_length (by rw [List.length_append, List.length_take, List.length_append, hA]; omega), List.take_append_of_le_length (by rw [List.length_take, List.length_append, hA]; omega), List.take_take, Nat.min_self, List.take_append_of_le_length (by rw [hA]; exact Nat.le_refl _), List.take_of_length_le (by rw [hA]; exact Nat.le_refl _), flat_take, flat_drop, ← List.flatMap_append, List.eraseIdx_eq_take_drop_succ]
  have hk : w.drew.heap[g]? = some (.cells cs 30 (0, 0)) := hcs
  have keep : ∀ (v : Value) (ls : List Ls), OwnSps w base v ls → OwnSps (delW w g i l.length (l.flatMap Le.cells)) base v ls := fun v ls hs => by
    have a1 : OwnSps w.drew base v ls := hs.below (drewB w)
    have a2 := sps_setCells (w := w) (by decide) (by decide) ((l.flatMap Le.cells).drop ((i + 1) * 6)) (i * 6) a1 hk
    obtain ⟨cs2, hk2⟩ : ∃ cs2, (w.drew.setCells g (i * 6) ((l.flatMap Le.cells).drop ((i + 1) * 6))).heap[g]? = some (.cells cs2 30 (0, 0)) := by
      rcases h1.2 with ⟨h0, _⟩ | ⟨g', cap', cur, hv, _, hg, _⟩
      · cases h0
      · simp only [Value.slice.injEq, Option.some.injEq, Addr.mk.injEq] at hv
        obtain ⟨⟨rfl, _⟩, _, rfl⟩ := hv
        exact ⟨cur, hg⟩
    exact sps_setCells (w := w) (by decide) (by decide) zE ((l.length - 1) * 6) a2 hk2
  refine ⟨⟨?_, fun e he => keep _ _ (h.each e (List.mem_of_mem_eraseIdx he))⟩, ?_, keep⟩
  · rw [← hex, hel]
    exact h3
  · exact Below.setCells hbg _ _ (Below.setCells hbg _ _ ((drewB w).mono (Nat.le_trans hbg (Nat.le_of_lt hgl))))
set_option maxHeartbeats 4000000 in
theorem delete_any (g n cap i base : Nat) (l : List Le) (w : World) (h : OwnEps w base (.slice (some ⟨g, 0, none⟩) n cap) l) (hn : n = l.length) (hi : i < n) (hsm : n ≤ 1000000) :
    Calls Try.prog 52 #[.slice (some ⟨g, 0, none⟩) n cap, .int .i64 (i : Int), .int .i64 ((i : Int) + 1)] w fun e w' => e = .returned (.slice (some ⟨g, 0, none⟩) (n - 1) cap) ∧ w' = delW w g i n (l.flatMap Le.cells) := by
  obtain ⟨i0, hi0, hz0, hz1, hz2⟩ := info_parts infoEp
  have hv0 : ∀ w, (zeroValue 30).run Try.prog w = .ok (.agg #[.int .u64 0, .int .u64 0, .int .i64 0, .int .i64 0, .bool false, .slice none 0 0]) w := fun w => by simp [zeroValue, typeInfo, hi0, hz0]
  obtain ⟨hbg, hgl, cs, hcs⟩ := own_row_block h hn
  have hcapn : n ≤ cap ∧ cap ≤ 9223372036854775807 := by
    rcases h.own.2 with ⟨h0, _⟩ | ⟨g', cap', cur, hv, _, hg, hnc, hcm, _⟩
    · cases h0
    · simp only [Value.slice.injEq, Option.some.injEq, Addr.mk.injEq] at hv
      obtain ⟨_, _, rfl⟩ := hv
      subst hn
      simp only [maxLen] at hcm
      exact ⟨hnc, hcm⟩
  have hlen : (l.flatMap Le.cells).length = n * 6 := by rw [hn]; exact flatMap_len _ 6 ecells_len l
  have hown : w.drew.ownsRow base 30 6 (.slice (some ⟨g, 0, none⟩) n cap) n (l.flatMap Le.cells) := by have := own_drew h.own; rwa [← hn] at this
  obtain ⟨xs, hxs⟩ : ∃ xs, xs = l.flatMap Le.cells := ⟨_, rfl⟩
  rw [← hxs] at hown hlen ⊢
  have hone : ∀ u ∈ xs, u.oneCell' = true := by rw [hxs]; exact ecells_one l
  clear h hn hxs hcs
  have hcell : ∀ j, j < n * 6 → w.drew.frozen? ⟨g, j, none⟩ = false ∧ w.drew.cell? ⟨g, j, none⟩ = xs[j]? := fun j hj => ⟨(own_setk hown hj (.bool true)).1, (own_setk hown hj (.bool true)).2.1⟩
  obtain ⟨news, hnews⟩ : ∃ news, news = xs.drop ((i + 1) * 6) := ⟨_, rfl⟩
  have hnl : news.length = (n - (i + 1)) * 6 := by rw [hnews, List.length_drop, hlen]; omega
  obtain ⟨A, hA, hsrc⟩ : ∃ A : Addr, (if cap = i + 1 then some (⟨g, 0, none⟩ : Addr) else some ⟨g, (i + 1) * 6, none⟩) = some A ∧ Hid (∀ t u, news[t]? = some u → w.drew.cell? (A.add t) = some u) := by
    by_cases h : cap = i + 1
    · refine ⟨⟨g, 0, none⟩, by simp [h], fun t u hu => ?_⟩
      have h0 : news.length = 0 := by rw [hnl]; omega
      rw [List.length_eq_zero_iff.1 h0] at hu
      simp at hu
    · refine ⟨⟨g, (i + 1) * 6, none⟩, by simp [h], fun t u hu => ?_⟩
      have ht := (List.getElem?_eq_some_iff.1 hu).1
      rw [hnl] at ht
      rw [hnews, List.getElem?_drop] at hu
      rw [Addr.add_lit, (hcell _ (by omega)).2]
      exact hu
  have s1 : Hid (news.length = (n - (i + 1)) * 6) := hnl
  have s2 : Hid (∀ u ∈ news, u.oneCell' = true) := fun u hu => hone u (List.mem_of_mem_drop (by rw [← hnews]; exact hu))
  have s3 : Hid (∀ t, t < news.length → (w.drew.cell? ⟨g, 0 + i * 6 + t, none⟩).isSome = true ∧ w.drew.frozen? ⟨g, 0 + i * 6 + t, none⟩ = false) := fun t ht => by
    rw [hnl] at ht
    have h := hcell (0 + i * 6 + t) (by omega)
    refine ⟨?_, h.1⟩
    rw [h.2, List.getElem?_eq_getElem (by rw [hlen]; omega)]
    rfl
  obtain ⟨W1, hW1⟩ : ∃ W1, W1 = w.drew.setCells g (0 + i * 6) news := ⟨_, rfl⟩
  have hown1 := own_setks news (0 + i * 6) hown (by rw [hnl]; omega)
  rw [← hW1] at hown1
  have hcell1 : ∀ j, j < n * 6 → W1.frozen? ⟨g, j, none⟩ = false ∧ (W1.cell? ⟨g, j, none⟩).isSome = true := fun j hj => ⟨(own_setk hown1 hj (.bool true)).1, by
    rw [(own_setk hown1 hj (.bool true)).2.1, List.getElem?_eq_getElem (by have h1 := hown1.1; omega)]
    rfl⟩
  have hcl : ∀ ty, (Builtin.clear_ #[39] ty #[.slice (some ⟨g, (n - 1) * 6, none⟩) 1 (cap - (n - 1))]).run Try.prog W1 = .ok (.tuple #[]) (W1.setCells g ((n - 1) * 6) zE) :=
    fun ty => run_clear_one W1 _ _ ty (.agg #[.int .u64 0, .int .u64 0, .int .i64 0, .int .i64 0, .bool false, .slice none 0 0]) Try.underlying39 hv0 (by decide) g ((n - 1) * 6) _ (fun j hj => (hcell1 _ (by have : j < 6 := hj; omega)).2) (fun j hj => (hcell1 _ (by have : j < 6 := hj; omega)).1)
  have hW : Hid (W1 = w.drew.setCells g (0 + i * 6) news) := hW1
  have HNW := Lib.hid hnews
  obtain ⟨hnc, hcm⟩ := hcapn
  have hic : i ≤ cap := by omega
  have hjc : i + 1 ≤ cap := by omega
  have q1 : (0 : Int) ≤ (i : Int) := by omega
  have q2 : (i : Int) ≤ (i : Int) + 1 := by omega
  have q3 : (i : Int) + 1 ≤ (n : Int) := by omega
  have q4 : (n : Int) ≤ (cap : Int) := by omega
  have q5 : ((i : Int) + 1).toNat = i + 1 := by omega
  have q6 : ((i : Int) == (i : Int) + 1) = false := by simp; omega
  have q7 : i + (n - (i + 1)) = n - 1 := by omega
  have q8 : (0 : Int) ≤ (i : Int) + 1 := by omega
  have q9 : n - (n - 1) = 1 := by omega
  have q10 : (((n - 1 : Nat)) : Int) ≤ (n : Int) := by omega
  have q11 : (cap = n - 1) = False := by simp; omega
  have q12 : ((i : Int) = (i : Int) + 1) = False := by simp; omega
  have p8 : (⟨g, 0, none⟩ : Addr).add ((n - 1) * 6) = ⟨g, (n - 1) * 6, none⟩ := by rw [addr_plain, Nat.zero_add]
  have p9 : (⟨g, 0, none⟩ : Addr).add ((i + 1) * 6) = ⟨g, (i + 1) * 6, none⟩ := by rw [addr_plain, Nat.zero_add]
  have q13 : i + 1 ≤ n := by omega
  clear hW1 hnews hnl hlen hone hown hown1 hcell hcell1 hv0 hbg hgl hsm
  go_enter Try.func52, Try.ntmps52
  go_wp2_with fail
  go_region_law (refine step_append_room rfl (.tmp 22) (.tmp 25) 39 rfl 30 i0 6 Try.underlying39 hi0 hz1 g 0 i cap (by simp [Act.eval, Act.put]) A (n - (i + 1)) (cap - (i + 1)) news (by simp [Act.eval, Act.put]) s1.out hsrc.out s2.out (by omega) s3.out ?_; rw [← hW.out])
  (try simp only [q7])
  go_wp2
  go_ret
  refine ⟨rfl, ?_⟩
  unfold delW
  rw [hW.out, HNW.out, Nat.zero_add]
end Go.Proofs.Ytenioeppmgmdiaa
