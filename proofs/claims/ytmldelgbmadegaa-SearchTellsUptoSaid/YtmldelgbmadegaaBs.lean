/- Several texts of tools, one behind the other. -/
import Derived.WalkKit
import Derived.WalkSpells
import Derived.WalkLawsBesides
import Derived.Lib.Hide
import Derived.Laws.OwnMore
import Derived.Deep.AppendLies
import Derived.Deep.Draws
import Derived.ProofKit
import Derived.OpenShut
import Derived.SliceStrings
import Derived.Laws.AppendOwn
import Derived.Maps.AppendAt
import Derived.RegionTactic
import Derived.OwnWalk
import Derived.Orders
import Derived.Below
/- Words for memory that all walks share: cells that read as a list of values, kept while old memory stays. No program in sight. -/
namespace Go.Proofs.Ytmldelgbmadegaa
open Go.RowKit

theorem block_add (a : Addr) (n : Nat) : (a.add n).block = a.block := by unfold Addr.add; split <;> rfl
theorem add_add (a : Addr) (i j : Nat) : (a.add i).add j = a.add (i + j) := by
  unfold Addr.add
  by_cases hi : i = 0 <;> by_cases hj : j = 0 <;> simp [hi, hj, Nat.add_assoc]

/-- The cells from A on read as xs, in a block below B. -/
def Rd (w : World) (B : Nat) (A : Option Addr) (xs : List Value) : Prop :=
  0 < xs.length → ∃ a, A = some a ∧ a.block < B ∧ ∀ j u, xs[j]? = some u → w.cell? (a.add j) = some u

section
variable {w w' : World} {B B' : Nat} {A : Option Addr} {xs : List Value}
theorem Rd.nil : Rd w B A [] := fun h => absurd h (by simp)
theorem Rd.at_ (h : Rd w B A xs) {k : Nat} (hk : k < xs.length) : ∃ a, A = some a ∧ a.block < B ∧ w.cell? (a.add k) = some xs[k] := by
  obtain ⟨a, e, hb, hc⟩ := h (by omega)
  exact ⟨a, e, hb, hc k _ (List.getElem?_eq_getElem hk)⟩
theorem Rd.keep (h : Rd w B A xs) (hk : ∀ p : Addr, p.block < B → w'.cell? p = w.cell? p) : Rd w' B A xs := fun hn => by
  obtain ⟨a, e, hb, hc⟩ := h hn
  exact ⟨a, e, hb, fun j u hu => (hk _ (by rw [block_add]; exact hb)).trans (hc j u hu)⟩
theorem Rd.more (h : Rd w B A xs) (hB : B ≤ B') : Rd w B' A xs := fun hn => by
  obtain ⟨a, e, hb, hc⟩ := h hn
  exact ⟨a, e, by omega, hc⟩
theorem Rd.below (h : Rd w B A xs) (hb : Below B w w') : Rd w' B A xs := h.keep fun _ hp => hb.cell hp
theorem Rd.drewN (h : Rd w B A xs) (k : Nat) : Rd (w.drewN k) B A xs := h
theorem Rd.alloc (h : Rd w B A xs) (hB : B ≤ w.heap.size) (o : Obj) : Rd (w.alloc o) B A xs := h.keep fun p hp => World.cell?_alloc_lt w o p (by omega)
theorem Rd.take (h : Rd w B A xs) (k : Nat) : Rd w B A (xs.take k) := fun hn => by
  simp only [List.length_take] at hn
  obtain ⟨a, e, hb, hc⟩ := h (by omega)
  exact ⟨a, e, hb, fun j u hu => hc j u (by
    rw [List.getElem?_take] at hu
    split at hu
    · exact hu
    · cases hu)⟩
/-- A cut at k, as the model has it: the address stays where the capacity ends. -/
theorem Rd.drop (h : Rd w B A xs) {k cap : Nat} (hc : xs.length ≤ cap) : Rd w B (if cap = k then A else A.map (·.add k)) (xs.drop k) := fun hn => by
  simp only [List.length_drop] at hn
  obtain ⟨a, rfl, hb, hcell⟩ := h (by omega)
  rw [if_neg (by omega)]
  refine ⟨a.add k, rfl, by rw [block_add]; exact hb, fun j u hu => ?_⟩
  rw [add_add]
  exact hcell _ u (by rw [← hu, List.getElem?_drop])
theorem Rd.of_own {base : Nat} {e : TypeId} {size n c : Nat} (h : w.ownsRow base e size (.slice A n c) n xs) : Rd w w.heap.size A xs := fun hn => by
  have hn' : 0 < n := by
    rcases Nat.eq_zero_or_pos n with h0 | h0
    · have := h.1; subst h0; omega
    · exact h0
  obtain ⟨g, cap, hv, _, hlt⟩ := h.form hn'
  have hA : A = some ⟨g, 0, none⟩ := by injection hv
  subst hA
  exact ⟨_, rfl, hlt, h.cells (g := g) rfl⟩
end

/-- A byte as a value; bytes as cells. -/
def B8 (c : UInt8) : Value := .int .u8 (c.toNat : Int)

theorem Rd.byte {w : World} {B : Nat} {A : Option Addr} {l : List UInt8} (h : Rd w B A (l.map B8)) {k : Nat} (hk : k < l.length) :
    ∃ a, A = some a ∧ a.block < B ∧ w.cell? (a.add k) = some (.int .u8 ((l.getD k 0).toNat : Int)) := by
  obtain ⟨a, e, hb, hc⟩ := h.at_ (k := k) (by simpa using hk)
  refine ⟨a, e, hb, ?_⟩
  rw [hc]
  simp [B8, List.getD, hk]

/-- Cells laid by a literal, just now. -/
theorem Rd.lit (w : World) (cs : Array Value) (t : TypeId) : Rd (w.alloc (.cells cs t)) (w.heap.size + 1) (some ⟨w.heap.size, 0, none⟩) cs.toList := fun _ => by
  refine ⟨_, rfl, Nat.lt_succ_self _, fun j x hj => ?_⟩
  have e : (⟨w.heap.size, 0, none⟩ : Addr).add j = ⟨w.heap.size, j, none⟩ := by unfold Addr.add; split <;> simp_all
  rw [e, cell_of_row _ w.heap.size j cs t (0, 0) (heap_alloc_new w _)]
  simpa using hj

/-- Bytes as a text. -/
def S8 (l : List UInt8) : ByteArray := ⟨l.toArray⟩

theorem size_list (s : ByteArray) : s.data.toList.length = s.size := by rw [Array.length_toList]; rfl

theorem foldl_bytes (l : List UInt8) (s : ByteArray) : ((l.map fun c => (c.toNat : Int)).foldl (fun r n => r.push (UInt8.ofNat n.toNat)) s) = ⟨s.data ++ l.toArray⟩ := by
  rw [foldl_push_bytes]
  congr 2
  rw [List.map_map]
  congr 1
  conv => rhs; rw [← List.map_id l]
  apply List.map_congr_left
  intro c _
  simp

/-- string(b) of whatever slice reads as bytes. -/
theorem run_str {P : Program} (src e dst : TypeId) (hs : P.underlying src = some (.slice e)) (he : P.underlying e = some (.int .u8)) (hd : P.underlying dst = some .string)
    {w : World} {B : Nat} {A : Option Addr} {l : List UInt8} (h : Rd w B A (l.map B8)) (n c : Nat) (hn : n = l.length) :
    (convert src dst (.slice A n c)).run P w = .ok (.string (S8 l)) w := by
  subst hn
  rw [run_convert_bytes_string w src dst e _ _ c hs he hd]
  rcases A with _ | a
  · have hl : l = [] := by
      rcases l with _ | ⟨x, r⟩
      · rfl
      · obtain ⟨a, ha, _⟩ := h (by simp)
        cases ha
    subst hl
    simp [Conv.bytesToString, S8]
    rfl
  · have hc : ∀ j v, (l.map B8)[j]? = some v → w.cell? (a.add j) = some v := by
      intro j v hj
      have hlt : 0 < (l.map B8).length := by
        rcases l with _ | ⟨x, r⟩
        · simp at hj
        · simp
      obtain ⟨a', ha, _, hc⟩ := h hlt
      injection ha with ha
      subst ha
      exact hc j v hj
    have hl := run_loadCells_list (P := P) w a (l.map B8) hc
    have e1 : (l.map B8) = (l.map fun c => (c.toNat : Int)).map (Value.int .u8) := by rw [List.map_map]; rfl
    rw [List.length_map, e1] at hl
    rw [run_bytesToString w _ l.length c _ hl, foldl_bytes]
    simp [S8, ByteArray.empty, ByteArray.emptyWithCapacity]
    rfl

end Go.Proofs.Ytmldelgbmadegaa

/- The step from a walk that ends in 'Below' to a row: what was read before the call reads as it did. Over any program. -/
namespace Go.Proofs.Ytmldelgbmadegaa
open Go.ChangeShapes Go.WideShapes Go.RowKit

section
variable {H : Type} {enc : TypeId × Value → H} {P : Program}

theorem trodAll_stays (hl : laidOutB P = true) {W W' : World} {sp' : Nat → Bool} :
    ∀ {ts : List TypeId} {vs : List Value} {ds : List (DataW H)} {ps : List MemPlace}, (∀ t ∈ ts, P.readableRec t = true ∧ t < P.types.size) →
      DataW.TrodAll enc P W 0 (fun _ => true) true ts vs ds ps → (∀ p ∈ ps, W.sameAt W' p) → (∀ p ∈ ps, sp' p.block = true) → DataW.TrodAll enc P W' 0 sp' true ts vs ds ps
  | [], _, _, _, _, h, _, _ => by
    obtain ⟨rfl, rfl, rfl⟩ := trodAll_nil h
    exact trodAll_mk0
  | t :: ts, _, _, _, hr, h, hsame, hs => by
    obtain ⟨v, vs', d, ds', p, q, rfl, rfl, rfl, h1, h2⟩ := trodAll_cons h
    exact trodAll_cons_mk (WideElems.Trod_stays hl (hr t (by simp)).1 (hr t (by simp)).2 h1 (fun x hx => hsame x (List.mem_append_left _ hx)) (fun x hx => hs x (List.mem_append_left _ hx)))
      (trodAll_stays hl (fun t ht => hr t (by simp [ht])) h2 (fun x hx => hsame x (List.mem_append_right _ hx)) (fun x hx => hs x (List.mem_append_right _ hx)))

/-- A law that names no variable: true, and nothing that was there has turned. -/
theorem post_law {f : Func} {s : ChangeSpec} {apart fresh handsOn again : Bool} {W W' : World} {args : Array Value} {ds : List (DataW H)} {before : List MemPlace} {tb : TypeId}
    (hl : laidOutB P = true) (hr : ∀ t ∈ f.params.toList, P.readableRec t = true ∧ t < P.types.size) (hvars : s.vars = [])
    (hrt : f.resultTypes = #[tb]) (htb : P.underlying tb = some .bool)
    (hW : DataW.Whole enc P f.params.toList s.vars apart W args.toList ds [] before)
    (hres : (s.fn H (ds ++ [])).results = [.lit (.bool true)]) (hargs : (s.fn H (ds ++ [])).args = ds) (hvs : (s.fn H (ds ++ [])).vars = [])
    (hb : Below W.heap.size W W') : s.post enc P f apart fresh handsOn again W args (.bool true) W' := by
  have hW0 := hW
  obtain ⟨p, q, hA, hV, rfl, hfz, hnd⟩ := hW0
  have hq : q = [] := by rw [hvars] at hV; exact hV
  subst hq
  have hlt : ∀ x ∈ p ++ [], x.block < W.heap.size := fun x hx => hW.lt x hx
  have hsame : ∀ x ∈ p, W.sameAt W' x := fun x hx => hb.same (hlt x (by simpa using hx))
  have hold : ∀ x ∈ p ++ [], (fun b => decide (b < W.heap.size)) x.block = true := fun x hx => by simpa using hlt x hx
  have hA' : ∀ sp : Nat → Bool, (∀ x ∈ p, sp x.block = true) → DataW.TrodAll enc P W' 0 sp true f.params.toList args.toList (s.fn H (ds ++ [])).args p := fun sp hs => by
    rw [hargs]; exact trodAll_stays hl hr hA hsame hs
  have hR : ∀ (b : Nat) (sp : Nat → Bool) (hd : Bool), DataW.TrodAll enc P W' b sp hd f.resultTypes.toList ((Value.bool true).resultList f.resultTypes.size) (s.fn H (ds ++ [])).results [] := fun b sp hd => by
    rw [hres, hrt]
    exact trodAll_cons_mk (shut_bool htb _) trodAll_mk0
  have hVv : ∀ sp : Nat → Bool, DataW.TrodVars enc P W' sp s.vars (s.fn H (ds ++ [])).vars [] := fun sp => by
    rw [hvars, hvs]; rfl
  refine ⟨ds, [], p ++ [], [], p, [], hW, hR _ _ _, hA' _ (fun x hx => hold x (by simpa using hx)), hVv _, World.keptBut_mono (fun x hx => ⟨hx, Or.inr (by simpa using hx)⟩) (hb.frame (· ∈ p ++ [])), fun _ => ?_⟩
  obtain ⟨_, _, _, _, _, hz, hn⟩ := hW
  refine ⟨ok_one hrt rfl (okWide_bool_mk htb _), _, _, ([] ++ p) ++ [], ⟨[] ++ p, [], trodAll_append (hA' _ (fun _ _ => rfl)) (hR _ _ _), hVv _, rfl, ?_, ?_⟩, ?_⟩
  · intro b off hp
    have hin : MemPlace.cell b off ∈ p ++ [] := by simpa using hp
    rw [hb.frozen (hlt _ hin)]
    exact hz b off hin
  · intro ha
    have := hn ha
    simpa using this
  · intro x hx _
    simpa using hx
theorem bytes_of_ints (zs : List Int) (hw : ∀ n ∈ zs, (Lit.int .u8 n).wf = true) : ∃ l : List UInt8, l.length = zs.length ∧ zs.map (Value.int .u8) = l.map B8 := by
  refine ⟨zs.map fun z => UInt8.ofNat z.toNat, by simp, ?_⟩
  rw [List.map_map]
  apply List.map_congr_left
  intro z hz
  have hb := bounds_u8 (hw z hz)
  simp only [Function.comp, B8]
  rw [UInt8.toNat_ofNat']
  have : z.toNat % 2 ^ 8 = z.toNat := by omega
  rw [this]
  congr 1
  omega

/-- A slice of integers that came in, nil or not: its cells. -/
theorem open_row {W : World} {base : Nat} {t e : TypeId} {k : IntKind} {v : Value} {d : DataW H} {p : List MemPlace} {r : Reach} {b0 : Nat} (ht : P.underlying t = some (.slice e)) (he : P.underlying e = some (.int k)) (hc : P.cellsOf e = 1)
    (hv : Value.okWide P W r b0 t v) (h : DataW.Trod enc P W base (fun _ => true) true t v d p) (hlt : ∀ x ∈ p, x.block < W.heap.size) :
    ∃ (A : Option Addr) (zs : List Int) (c : Nat), v = .slice A zs.length c ∧ Rd W W.heap.size A (zs.map (Value.int k)) ∧ zs.length ≤ c ∧ c ≤ maxLen ∧ ∀ n ∈ zs, (Lit.int k n).wf = true := by
  obtain ⟨a0, len0, cap0, rfl⟩ := okWide_slice ht hv
  obtain ⟨fuel, hf⟩ := h
  rcases open_ints ht he hc hf with ⟨hcs, _⟩ | ⟨x, l, c, zs, hcs, _, hl, hm, hz, hx, hcell, hwz⟩
  · simp [Value.cells] at hcs
    obtain ⟨rfl, rfl, rfl⟩ := hcs
    exact ⟨none, [], 0, rfl, Rd.nil, Nat.le_refl _, by simp [maxLen], by simp⟩
  · simp [Value.cells] at hcs
    obtain ⟨rfl, rfl, rfl⟩ := hcs
    simp only [if_true] at hz
    have hlen : (zs.take len0).length = len0 := by rw [List.length_take]; omega
    refine ⟨some x, zs.take len0, cap0, by rw [hlen], fun hn => ?_, by rw [hlen]; exact hl, hm, fun n hn => hwz n (List.mem_of_mem_take hn)⟩
    have hp : x.block < W.heap.size := by
      have : MemPlace.cell x.block x.off ∈ p := by
        simp only [Prod.mk.injEq] at hx
        rw [hx.2]
        have h0 : 0 < zs.length := by simp at hn; omega
        simp only [MemPlace.row, List.mem_map, List.mem_range]
        exact ⟨0, h0, by simp⟩
      exact hlt _ this
    refine ⟨x, rfl, hp, fun j u hu => ?_⟩
    have hj : j < (zs.take len0).length := by
      rcases Nat.lt_or_ge j (zs.take len0).length with h1 | h1
      · exact h1
      · rw [List.getElem?_eq_none (by simpa using h1)] at hu; cases hu
    rw [hlen] at hj
    rw [hcell j (by omega)]
    have hjz : j < zs.length := by omega
    rw [List.getElem?_map, List.getElem?_take, if_pos hj, List.getElem?_eq_getElem hjz] at hu
    simp at hu
    subst hu
    simp [List.getD, hjz]

theorem open_bytes {W : World} {base : Nat} {t e : TypeId} {v : Value} {d : DataW H} {p : List MemPlace} {r : Reach} {b0 : Nat} (ht : P.underlying t = some (.slice e)) (he : P.underlying e = some (.int .u8)) (hc : P.cellsOf e = 1)
    (hv : Value.okWide P W r b0 t v) (h : DataW.Trod enc P W base (fun _ => true) true t v d p) (hlt : ∀ x ∈ p, x.block < W.heap.size) :
    ∃ (A : Option Addr) (l : List UInt8) (c : Nat), v = .slice A l.length c ∧ Rd W W.heap.size A (l.map B8) ∧ l.length ≤ c ∧ c ≤ maxLen := by
  obtain ⟨A, zs, c, hv, hr, hl, hm, hw⟩ := open_row ht he hc hv h hlt
  obtain ⟨l, e1, e2⟩ := bytes_of_ints zs hw
  exact ⟨A, l, c, by rw [e1]; exact hv, by rw [← e2]; exact hr, by omega, hm⟩

/-- A slice of texts that came in. -/
theorem open_texts {W : World} {base : Nat} {t e : TypeId} {v : Value} {d : DataW H} {p : List MemPlace} {r : Reach} {b0 : Nat} (ht : P.underlying t = some (.slice e)) (he : P.underlying e = some .string) (hc : P.cellsOf e = 1)
    (hv : Value.okWide P W r b0 t v) (h : DataW.Trod enc P W base (fun _ => true) true t v d p) (hlt : ∀ x ∈ p, x.block < W.heap.size) :
    ∃ (A : Option Addr) (ss : List ByteArray) (c : Nat), v = .slice A ss.length c ∧ Rd W W.heap.size A (ss.map Value.string) ∧ ss.length ≤ c ∧ c ≤ maxLen ∧ ∀ s ∈ ss, s.size ≤ maxLen := by
  obtain ⟨a0, len0, cap0, rfl⟩ := okWide_slice ht hv
  obtain ⟨fuel, hf⟩ := h
  rcases open_strings ht he hc hf with ⟨hcs, _⟩ | ⟨x, l, c, zs, hcs, _, hl, hm, hz, hx, hcell, hwz⟩
  · simp [Value.cells] at hcs
    obtain ⟨rfl, rfl, rfl⟩ := hcs
    exact ⟨none, [], 0, rfl, Rd.nil, Nat.le_refl _, by simp [maxLen], by simp⟩
  · simp [Value.cells] at hcs
    obtain ⟨rfl, rfl, rfl⟩ := hcs
    simp only [if_true] at hz
    have hlen : (zs.take len0).length = len0 := by rw [List.length_take]; omega
    refine ⟨some x, zs.take len0, cap0, by rw [hlen], fun hn => ?_, by rw [hlen]; exact hl, hm, fun n hn => hwz n (List.mem_of_mem_take hn)⟩
    have hp : x.block < W.heap.size := by
      have : MemPlace.cell x.block x.off ∈ p := by
        simp only [Prod.mk.injEq] at hx
        rw [hx.2]
        have h0 : 0 < zs.length := by simp at hn; omega
        simp only [MemPlace.row, List.mem_map, List.mem_range]
        exact ⟨0, h0, by simp⟩
      exact hlt _ this
    refine ⟨x, rfl, hp, fun j u hu => ?_⟩
    have hj : j < (zs.take len0).length := by
      rcases Nat.lt_or_ge j (zs.take len0).length with h1 | h1
      · exact h1
      · rw [List.getElem?_eq_none (by simpa using h1)] at hu; cases hu
    rw [hlen] at hj
    rw [hcell j (by omega)]
    have hjz : j < zs.length := by omega
    rw [List.getElem?_map, List.getElem?_take, if_pos hj, List.getElem?_eq_getElem hjz] at hu
    simp at hu
    subst hu
    simp [List.getD, hjz]
end
end Go.Proofs.Ytmldelgbmadegaa

/- append onto a row of the call's own, of whatever reads as cells (nil, empty, a text): what it owns then, and that nothing else has turned. Over any program. -/
namespace Go.Proofs.Ytmldelgbmadegaa
open Go.RowKit

/-- What an append does beside its row: nothing that was there turns but that row; the new row is the old one, or new. -/
structure Grew (w w' : World) (v v' : Value) : Prop where
  grown : w.grownBy w' v.ownBlock
  blk : v'.ownBlock = v.ownBlock ∨ ∃ g, v'.ownBlock = some g ∧ w.heap.size ≤ g

theorem Grew.refl (w : World) (v : Value) : Grew w w v v := ⟨⟨rfl, rfl, rfl, Nat.le_refl _, fun _ _ _ => rfl⟩, .inl rfl⟩
theorem Grew.trans {a b c : World} {u v x : Value} (h : Grew a b u v) (k : Grew b c v x) : Grew a c u x := by
  refine ⟨⟨k.grown.os.trans h.grown.os, k.grown.tape.trans h.grown.tape, k.grown.output.trans h.grown.output, Nat.le_trans h.grown.size k.grown.size, fun i hi hne => ?_⟩, ?_⟩
  · have h1 := h.grown.block i hi hne
    have h2 : some i ≠ v.ownBlock := by
      rcases h.blk with e | ⟨g, e, hg⟩
      · rw [e]; exact hne
      · rw [e]; intro he; injection he with he; omega
    exact (k.grown.block i (Nat.lt_of_lt_of_le hi h.grown.size) h2).trans h1
  · rcases k.blk with e | ⟨g, e, hg⟩
    · rcases h.blk with e' | ⟨g, e', hg⟩
      · exact .inl (e.trans e')
      · exact .inr ⟨g, e.trans e', hg⟩
    · exact .inr ⟨g, e, Nat.le_trans h.grown.size hg⟩
/-- A new block, or a draw, ahead of it. -/
theorem Grew.alloc {w w' : World} {o : Obj} {u v : Value} (h : Grew (w.alloc o) w' u v) : Grew w w' u v := by
  have hz : (w.alloc o).heap.size = w.heap.size + 1 := by simp
  refine ⟨⟨h.grown.os, h.grown.tape, h.grown.output, by have := h.grown.size; omega, fun i hi hne => (h.grown.block i (by omega) hne).trans (Below.heap_alloc w o i hi)⟩, ?_⟩
  rcases h.blk with e | ⟨g, e, hg⟩
  · exact .inl e
  · exact .inr ⟨g, e, by omega⟩
theorem Grew.below {B : Nat} {a w w' : World} {u v : Value} (h : Grew w w' u v) (hb : Below B a w) (hB : B ≤ w.heap.size) (hu : ∀ k, u.ownBlock = some k → B ≤ k) : Below B a w' := hb.grown h.grown hB hu
theorem own_block_ge {w : World} {base : Nat} {e : TypeId} {size n : Nat} {v : Value} {xs : List Value} (h : w.ownsRow base e size v n xs) : ∀ k, v.ownBlock = some k → base ≤ k := by
  intro k hk
  rcases h.2 with ⟨rfl, _⟩ | ⟨g, cap, cur, rfl, hb, _⟩
  · simp [Value.ownBlock] at hk
  · simp [Value.ownBlock] at hk; omega
theorem own_block_lt {w : World} {base : Nat} {e : TypeId} {size n : Nat} {v : Value} {xs : List Value} (h : w.ownsRow base e size v n xs) : ∀ k, v.ownBlock = some k → k < w.heap.size := by
  intro k hk
  rcases h.2 with ⟨rfl, _⟩ | ⟨g, cap, cur, rfl, hb, hh, _⟩
  · simp [Value.ownBlock] at hk
  · simp [Value.ownBlock] at hk
    subst hk
    rcases Nat.lt_or_ge g w.heap.size with h1 | h1
    · exact h1
    · rw [Array.getElem?_eq_none h1] at hh; cases hh
theorem Rd.grew {w w' : World} {B : Nat} {A : Option Addr} {xs : List Value} {u v : Value} (h : Rd w B A xs) (hg : Grew w w' u v) (hB : B ≤ w.heap.size) (hu : ∀ k, u.ownBlock = some k → B ≤ k) : Rd w' B A xs :=
  h.keep fun p hp => World.cell?_of_block (hg.grown.block p.block (by omega) (fun e => by have := hu _ e.symm; omega))
theorem own_rd {w : World} {base : Nat} {e : TypeId} {size n : Nat} {v : Value} {xs : List Value} (h : w.ownsRow base e size v n xs) : ∃ A c, v = .slice A n c ∧ n ≤ c ∧ Rd w w.heap.size A xs := by
  rcases h.2 with ⟨rfl, rfl⟩ | ⟨g, cap, cur, rfl, _, _, hc, _⟩
  · have hx : xs = [] := List.eq_nil_of_length_eq_zero (by simpa using h.1)
    subst hx
    exact ⟨_, _, rfl, Nat.le_refl _, Rd.nil⟩
  · exact ⟨_, _, rfl, hc, Rd.of_own h⟩
theorem own_mono {w : World} {base base' : Nat} {e : TypeId} {size n : Nat} {v : Value} {xs : List Value} (h : w.ownsRow base e size v n xs) (hb : base' ≤ base) : w.ownsRow base' e size v n xs := by
  refine ⟨h.1, ?_⟩
  rcases h.2 with h2 | ⟨g, cap, cur, hv, hg, r⟩
  · exact .inl h2
  · exact .inr ⟨g, cap, cur, hv, by omega, r⟩

section
variable {P : Program}

/-- append onto a row of one's own: the source is any value whose length and cells can be told. -/
theorem run_append_gen (w : World) (base : Nat) (t t2 ty e : TypeId) (d2 : TypeDesc) (i : TypeInfo) (z : Value) (size bytes : Nat) (ht : P.underlying t = some (.slice e))
    (ht2 : P.underlying t2 = some d2) (hd2 : ∀ k, d2 ≠ .int k) (hi : P.info? e = some i) (hz : i.zero = some z)
    (hsize : i.size = size) (hby : i.bytes = bytes) (hzs : z.cells.size = size)
    (v : Value) (n : Nat) (xs : List Value) (hown : w.ownsRow base e size v n xs)
    (x : Value) (m : Nat) (news : List Value) (hl : news.length = m * size) (hlen : ∀ W, (Builtin.lenOf x).run P W = .ok m W)
    (hf : ∀ W : World, W.heap = w.heap → (Builtin.firstCells size m x).run P W = .ok news.toArray W) (h1 : ∀ u ∈ news, u.oneCell' = true)
    (h63 : n + m ≤ maxLen) (hbytes : (n + m) * bytes ≤ 140737488355328) (hbase : base ≤ w.heap.size) :
    ∃ v' w', (Builtin.append_ #[t, t2] ty #[v, x]).run P w = .ok v' w' ∧ w'.ownsRow base e size v' (n + m) (xs ++ news) ∧ Grew w w' v v' := by
  subst hsize
  subst hby
  have hlenl : (xs ++ news).length = (n + m) * i.size := by rw [List.length_append, hown.1, hl, Nat.add_mul]
  have hgr : ∀ (old : Nat) (row : Option Nat),
      (w.drew.alloc (.cells (xs.toArray ++ news.toArray ++ Builtin.zeroCells z.cells (grownCap w (n + m) old e - (n + m))) e)).ownsRow base e i.size
        (.slice (some ⟨w.heap.size, 0, none⟩) (n + m) (grownCap w (n + m) old e)) (n + m) (xs ++ news) ∧
      w.grownBy (w.drew.alloc (.cells (xs.toArray ++ news.toArray ++ Builtin.zeroCells z.cells (grownCap w (n + m) old e - (n + m))) e)) row := by
    intro old row
    have hge := grownCap_ge w (n + m) old e
    have hcm : grownCap w (n + m) old e ≤ maxLen := grownCap_le_maxLen w (n + m) old e h63
    refine ⟨⟨hlenl, .inr ⟨w.heap.size, _, _, rfl, hbase, heap_alloc_new w.drew _, hge, hcm, ?_, ?_⟩⟩, ⟨rfl, rfl, rfl, by simp, fun k hk _ => Below.heap_alloc w.drew _ k hk⟩⟩
    · simp only [Array.size_append, List.size_toArray, size_zeroCells, hzs, hown.1, hl, ← Nat.add_mul]
      congr 1
      omega
    · simp only [Array.toList_append, List.append_assoc]
      rw [← List.append_assoc, ← hlenl]
      exact List.take_left
  have hfw := hf w rfl
  have hfd := hf w.drew rfl
  rcases hown.2 with ⟨rfl, rfl⟩ | ⟨g, cap, cur, rfl, hbg, hg, hnc, hcm, hcs, htake⟩
  · have hx : xs = [] := List.eq_nil_of_length_eq_zero (by simpa using hown.1)
    subst hx
    by_cases hm : m = 0
    · subst hm
      have hn : news = [] := List.eq_nil_of_length_eq_zero (by simpa using hl)
      subst hn
      refine ⟨.slice none 0 0, w, ?_, World.ownsRow_nil w base e i.size, Grew.refl _ _⟩
      simp [Builtin.append_, run_underlying ht, run_underlying ht2, sizeOf, typeInfo, hi, hlen, hfw]
    · have h63' : ¬ (9223372036854775807 < (m : Int)) := by simp only [maxLen] at h63; omega
      have h48' : ¬ (281474976710656 < Builtin.nextslicecap m 0 * i.bytes) := by
        rw [nextslicecap_zero (by omega)]
        simp only [Nat.zero_add] at hbytes
        omega
      have hgr0 := hgr 0 (Value.ownBlock (.slice none 0 0))
      simp only [Nat.zero_add, List.nil_append, Array.empty_append] at hgr0 ⊢
      refine ⟨_, _, ?_, hgr0.1, hgr0.2, .inr ⟨_, rfl, Nat.le_refl _⟩⟩
      simp [Builtin.append_, run_underlying ht, run_underlying ht2, sizeOf, typeInfo, zeroValue, hi, hz, hlen, hm, h63', h48', Question.forced, run_firstCells_none, hfd, newRow, grownCap]
  · by_cases hroom : n + m ≤ cap
    · have hfit : n * i.size + news.length ≤ cur.size := by rw [hl, hcs, ← Nat.add_mul]; exact Nat.mul_le_mul_right _ hroom
      have hst := run_storeCells_at P g (n * i.size) e news 0 cur w hg (by simpa using hfit) h1
      simp only [Nat.add_zero] at hst
      refine ⟨.slice (some ⟨g, 0, none⟩) (n + m) cap, w.setRow g (cur.toList.take (n * i.size) ++ news ++ cur.toList.drop (n * i.size + news.length)).toArray, ?_,
        ⟨hlenl, .inr ⟨g, cap, _, rfl, hbg, setRow_heap w g cur _ e _ hg, hroom, hcm, ?_, ?_⟩⟩, ⟨rfl, rfl, rfl, by simp, fun k _ hk => setRow_other w g k _ (fun e => hk (by simp [Value.ownBlock, e]))⟩, .inl rfl⟩
      · simp [Builtin.append_, run_underlying ht, run_underlying ht2, sizeOf, typeInfo, hi, hlen, hroom, hfw, Addr.add_lit, hst]
      · simp only [List.size_toArray, List.length_append, List.length_take, List.length_drop, Array.length_toList]
        omega
      · rw [htake, ← hlenl]
        exact List.take_left
    · have holds : ∀ j u, xs[j]? = some u → w.cell? ((⟨g, 0, none⟩ : Addr).add j) = some u := hown.cells (g := g) rfl
      have h63' : ¬ (9223372036854775807 < ((n : Int) + (m : Int))) := by simp only [maxLen] at h63; omega
      have h48' : ¬ (281474976710656 < Builtin.nextslicecap (n + m) cap * i.bytes) := by have := growslice_fits (need := n + m) (old := cap) (bytes := i.bytes) (by omega) hbytes; omega
      have hfo := run_firstCells_some (P := P) w.drew i.size n ⟨g, 0, none⟩ n cap xs hown.1 (by simpa using holds)
      have hgr0 := hgr cap (Value.ownBlock (.slice (some ⟨g, 0, none⟩) n cap))
      refine ⟨_, _, ?_, hgr0.1, hgr0.2, .inr ⟨_, rfl, Nat.le_refl _⟩⟩
      simp [Builtin.append_, run_underlying ht, run_underlying ht2, sizeOf, typeInfo, zeroValue, hi, hz, hlen, hroom, h63', h48', Question.forced, hfd, hfo, newRow, grownCap]
      congr 2
      apply Array.ext'
      simp [List.append_assoc]

theorem firstCells_rd {w : World} {B : Nat} {A : Option Addr} {size m c : Nat} {news : List Value} (hl : news.length = m * size) (hr : Rd w B A news) :
    ∀ W : World, W.heap = w.heap → (Builtin.firstCells size m (.slice A m c)).run P W = .ok news.toArray W := by
  intro W hW
  rcases A with _ | a
  · have hn : news = [] := by
      rcases news with _ | ⟨x, r⟩
      · rfl
      · obtain ⟨a, h, _⟩ := hr (by simp); cases h
    subst hn
    simp [Builtin.firstCells]
  · refine run_firstCells_some W size m a m c news hl ?_
    intro j u hu
    have hlt : 0 < news.length := by
      rcases news with _ | ⟨x, r⟩
      · simp at hu
      · simp
    obtain ⟨a', h, _, hc⟩ := hr hlt
    injection h with h
    subst h
    rw [← hc j u hu]
    simp [World.cell?, hW]

/-- The source is a slice that reads as cells (nil too). -/
theorem run_append_rd (w : World) (base : Nat) (t ty e : TypeId) (i : TypeInfo) (z : Value) (size bytes : Nat) (ht : P.underlying t = some (.slice e)) (hi : P.info? e = some i) (hz : i.zero = some z)
    (hsize : i.size = size) (hby : i.bytes = bytes) (hzs : z.cells.size = size)
    (v : Value) (n : Nat) (xs : List Value) (hown : w.ownsRow base e size v n xs)
    (B : Nat) (A : Option Addr) (m c : Nat) (news : List Value) (hl : news.length = m * size) (hr : Rd w B A news) (h1 : ∀ u ∈ news, u.oneCell' = true)
    (h63 : n + m ≤ maxLen) (hbytes : (n + m) * bytes ≤ 140737488355328) (hbase : base ≤ w.heap.size) :
    ∃ v' w', (Builtin.append_ #[t, t] ty #[v, .slice A m c]).run P w = .ok v' w' ∧ w'.ownsRow base e size v' (n + m) (xs ++ news) ∧ Grew w w' v v' :=
  run_append_gen w base t t ty e _ i z size bytes ht ht (by intro k; simp) hi hz hsize hby hzs v n xs hown _ m news hl (fun W => by simp [Builtin.lenOf]) (firstCells_rd hl hr) h1 h63 hbytes hbase

/-- The source is a text. -/
theorem run_append_str (w : World) (base : Nat) (t t2 ty e : TypeId) (i : TypeInfo) (z : Value) (bytes : Nat) (ht : P.underlying t = some (.slice e)) (ht2 : P.underlying t2 = some .string) (hi : P.info? e = some i) (hz : i.zero = some z)
    (hsize : i.size = 1) (hby : i.bytes = bytes) (hzs : z.cells.size = 1)
    (v : Value) (n : Nat) (xs : List Value) (hown : w.ownsRow base e 1 v n xs) (s : ByteArray)
    (h63 : n + s.size ≤ maxLen) (hbytes : (n + s.size) * bytes ≤ 140737488355328) (hbase : base ≤ w.heap.size) :
    ∃ v' w', (Builtin.append_ #[t, t2] ty #[v, .string s]).run P w = .ok v' w' ∧ w'.ownsRow base e 1 v' (n + s.size) (xs ++ s.data.toList.map B8) ∧ Grew w w' v v' := by
  refine run_append_gen w base t t2 ty e _ i z 1 bytes ht ht2 (by intro k; simp) hi hz hsize hby hzs v n xs hown _ s.size _ (by simp) (fun W => by simp [Builtin.lenOf]) (fun W _ => ?_) (by
    intro u hu
    simp only [List.mem_map] at hu
    obtain ⟨c, _, rfl⟩ := hu
    rfl) h63 hbytes hbase
  simp [Builtin.firstCells]
  apply Array.ext'
  simp [B8]

/-- At the operation, for the walk: what the run of append is known to come to. -/
theorem wpList_app {w : World} {ops : Array Oper} {rest : List Oper} {o : Oper} {a : Act} {Q : Exit → Act → World → Prop} (hgd : o.guard = none) (s x : Operand) (t t2 : TypeId)
    (ho : o.op = .call { callee := .builtin .append, args := #[s, x], argTypes := #[t, t2] }) {v xv : Value} (hs : a.eval s = v) (hx : a.eval x = xv) {R : Value → World → Prop}
    (hr : ∃ v' w', (Builtin.append_ #[t, t2] o.type #[v, xv]).run P w = .ok v' w' ∧ R v' w')
    (h : ∀ v' w', R v' w' → wpList P ops Q rest (a.put o.dst v') w') : wpList P ops Q (o :: rest) a w := by
  obtain ⟨v', w', h1, h2⟩ := hr
  refine wpList_plain hgd fun _ hK => ?_
  unfold Oper.wp execOp
  simp only [ho, resolve, invoke, builtin, Sem.run_bind, Sem.run_pure, Result.andThen_ok, List.map_toArray, List.map_cons, List.map_nil, hs, hx, h1]
  exact hK _ _ (h v' w' h2)

theorem bcell {W w1 : World} {B : Nat} (hb : Below B W w1) : (∀ b o, b < B → w1.cell? ⟨b, o, none⟩ = W.cell? ⟨b, o, none⟩) ∧ (∀ b o, b < B → w1.frozen? ⟨b, o, none⟩ = W.frozen? ⟨b, o, none⟩) :=
  ⟨fun b o h => hb.cell (p := ⟨b, o, none⟩) h, fun b o h => hb.frozen (p := ⟨b, o, none⟩) h⟩

/-- An owned row stays while only new blocks are made, or another row of one's own turns. -/
theorem own_grew {w w' : World} {base : Nat} {e : TypeId} {size n : Nat} {v : Value} {xs : List Value} (h : w.ownsRow base e size v n xs) {u u' : Value} (hg : Grew w w' u u')
    (hne : u.ownBlock = none ∨ v.ownBlock ≠ u.ownBlock) : w'.ownsRow base e size v n xs := by
  rcases hv : v.ownBlock with _ | g
  · exact h.kept hg.grown (.inl hv)
  · refine h.kept hg.grown (.inr ?_)
    rcases hne with hn | hn
    · rw [hv, hn]; simp
    · exact hn
theorem own_below {w w' : World} {base : Nat} {e : TypeId} {size n : Nat} {v : Value} {xs : List Value} (h : w.ownsRow base e size v n xs) (hb : Below w.heap.size w w') : w'.ownsRow base e size v n xs :=
  h.kept (row := none) ⟨hb.os, hb.tape, hb.output, hb.size, fun i hi _ => hb.block i hi⟩ (by rcases hv : v.ownBlock with _ | g <;> simp)
/-- What only makes new blocks. -/
theorem Grew.new {w w' : World} {v : Value} (h : Grew w w' (.slice none 0 0) v) : Below w.heap.size w w' :=
  ⟨h.grown.os, h.grown.tape, h.grown.output, h.grown.size, fun i hi => h.grown.block i hi (by simp [Value.ownBlock])⟩

/-- One new cell, just laid. -/
theorem Rd.one (w : World) (u : Value) (t : TypeId) : Rd (w.alloc (.cells #[u] t)) (w.heap.size + 1) (some ⟨w.heap.size, 0, none⟩) [u] := fun _ => by
  refine ⟨_, rfl, Nat.lt_succ_self _, fun j x hj => ?_⟩
  rcases j with _ | j
  · simp at hj
    subst hj
    show (w.alloc (.cells #[u] t)).cell? ⟨w.heap.size, 0, none⟩ = some u
    rw [cell_of_row _ w.heap.size 0 #[u] t (0, 0) (heap_alloc_new w _)]
    rfl
  · simp at hj

end

/-- An append at a step of a region that draws its order. -/
theorem step_app {P : Program} {w : World} {ops : Array Oper} {o : Oper} {a : Act} {K : Act → World → Prop} {Q : Exit → Act → World → Prop} {E : Prop} (hgd : o.guard = none) (s x : Operand) (t t2 : TypeId)
    (ho : o.op = .call { callee := .builtin .append, args := #[s, x], argTypes := #[t, t2] }) {v xv : Value} (hs : a.eval s = v) (hx : a.eval x = xv) {R : Value → World → Prop}
    (hr : ∃ v' w', (Builtin.append_ #[t, t2] o.type #[v, xv]).run P w = .ok v' w' ∧ R v' w')
    (h : ∀ v' w', R v' w' → K (a.put o.dst v') w') : if Region.wanted o (yielded ops a.tmps) = true then Oper.wp P o a w K Q else E := by
  have hw : Region.wanted o (yielded ops a.tmps) = true := by simp [Region.wanted, hgd]
  rw [if_pos hw]
  obtain ⟨v', w', h1, h2⟩ := hr
  unfold Oper.wp execOp
  simp only [ho, resolve, invoke, builtin, Sem.run_bind, Sem.run_pure, Result.andThen_ok, List.map_toArray, List.map_cons, List.map_nil, hs, hx, h1]
  exact h v' w' h2
theorem Grew.cell {w w' : World} {B : Nat} {u v : Value} (hg : Grew w w' u v) (hB : B ≤ w.heap.size) (hu : ∀ k, u.ownBlock = some k → B ≤ k) {p : Addr} (hp : p.block < B) : w'.cell? p = w.cell? p :=
  World.cell?_of_block (hg.grown.block p.block (by omega) (fun e => by have := hu _ e.symm; omega))

theorem grew_drew {w w' : World} {u v : Value} (h : Grew w.drew w' u v) : Grew w w' u v := ⟨⟨h.grown.os, h.grown.tape, h.grown.output, h.grown.size, h.grown.block⟩, h.blk⟩
theorem grew_draw {w w' : World} {u v : Value} {n : Nat} (h : Grew (w.drewN n) w' u v) : Grew w w' u v := ⟨⟨h.grown.os, h.grown.tape, h.grown.output, h.grown.size, h.grown.block⟩, h.blk⟩
theorem own_drew {w : World} {b : Nat} {e : TypeId} {z : Nat} {v : Value} {q : Nat} {xs : List Value} (h : w.ownsRow b e z v q xs) : w.drew.ownsRow b e z v q xs := h
theorem Rd.drew {w : World} {B : Nat} {A : Option Addr} {xs : List Value} (h : Rd w B A xs) : Rd w.drew B A xs := h

/-- One cell of a row of one's own is stored. -/
theorem own_set {w : World} {base g cap n : Nat} {e : TypeId} {xs : List Value} (h : w.ownsRow base e 1 (.slice (some ⟨g, 0, none⟩) n cap) n xs) {i : Nat} (hi : i < n) (u : Value) :
    w.frozen? ⟨g, i, none⟩ = false ∧ w.cell? ⟨g, i, none⟩ = xs[i]? ∧ (w.setCell ⟨g, i, none⟩ u).ownsRow base e 1 (.slice (some ⟨g, 0, none⟩) n cap) n (xs.set i u) ∧
      Grew w (w.setCell ⟨g, i, none⟩ u) (.slice (some ⟨g, 0, none⟩) n cap) (.slice (some ⟨g, 0, none⟩) n cap) := by
  have hlen : xs.length = n := by have := h.1; omega
  rcases h.2 with ⟨h0, _⟩ | ⟨g', cap', cur, hv, hb, hg, hnc, hcm, hcs, htake⟩
  · cases h0
  · simp only [Value.slice.injEq, Option.some.injEq, Addr.mk.injEq] at hv
    obtain ⟨⟨rfl, _⟩, _, rfl⟩ := hv
    have hset := setCell_eq_setRow w g i cur e (0, 0) u hg
    have hi2 : i < cur.size := by omega
    have hcell : w.cell? ⟨g, i, none⟩ = xs[i]? := by
      rw [cell_of_row w g i cur e (0, 0) hg, ← htake, Nat.mul_one, List.getElem?_take, if_pos hi]
      simp
    refine ⟨by simp [World.frozen?, hg], hcell, ⟨by rw [List.length_set]; exact h.1, .inr ⟨g, cap, cur.setIfInBounds i u, rfl, hb, ?_, hnc, hcm, ?_, ?_⟩⟩, ⟨⟨?_, ?_, ?_, ?_, ?_⟩, .inl rfl⟩⟩
    · rw [hset]; exact setRow_heap w g cur _ e _ hg
    · simpa using hcs
    · rw [← htake, Array.toList_setIfInBounds, List.take_set]
    · rw [hset]; rfl
    · rw [hset]; rfl
    · rw [hset]; rfl
    · rw [hset]; simp
    · intro k hk hne
      rw [hset]
      exact setRow_other w g k _ (fun e => hne (by simp [Value.ownBlock, e]))

end Go.Proofs.Ytmldelgbmadegaa

/- A region that draws its order: each operation shown once, on what it waits for; whatever order the tape picks, all that was shown holds behind it. R: how the world may turn within the region; G k: what holds till operation k is carried out (it may use it up; the others keep it). Over any program. -/
namespace Go.Proofs.Ytmldelgbmadegaa.PG
open Go.RowKit
set_option linter.unusedVariables false

/-- How worlds may turn: from each to itself, and on. -/
structure Goes (R : World → World → Prop) : Prop where
  refl : ∀ w, R w w
  trans : ∀ a b c, R a b → R b c → R a c
section
variable {P : Program} {ops : Array Oper} {a0 : Act} {w0 : World} {R : World → World → Prop} {G : Nat → World → Prop} {F : Nat → Value → World → Prop} {Q : Exit → Act → World → Prop}

/-- What operation i may lean on: of those that it waits for, what was shown; of a temporary that nobody turns ahead of it, what lay there. -/
structure ToldG (ops : Array Oper) (a0 : Act) (R : World → World → Prop) (G : Nat → World → Prop) (F : Nat → Value → World → Prop) (i : Nat) (o : Oper) (a : Act) (w : World) : Prop where
  dep : ∀ e ∈ o.after, Region.binds .any e = true → ∀ oj d, ops[e.on]? = some oj → oj.dst = some d → F e.on (a.tmps.getD d undef) w
  old : ∀ t, (∀ j oj, ops[j]? = some oj → oj.dst = some t → j = i ∨ ∃ e ∈ oj.after, Region.binds .any e = true ∧ e.on = i) → a.tmps.getD t undef = a0.tmps.getD t undef
  defers : a.defers = a0.defers
  res : ∀ k, (k = i ∨ ∃ ok, ops[k]? = some ok ∧ ∃ e ∈ ok.after, Region.binds .any e = true ∧ e.on = i) → G k w

/-- Operation i keeps what was shown of the others, but of those that wait for it. -/
def KeepsF (ops : Array Oper) (F : Nat → Value → World → Prop) (i : Nat) (w w' : World) : Prop :=
  ∀ j v, j ≠ i → (∀ oj, ops[j]? = some oj → ∀ e ∈ oj.after, Region.binds .any e = true → e.on ≠ i) → F j v w → F j v w'
/-- Operation i, shown. -/
def ShownG (P : Program) (ops : Array Oper) (a0 : Act) (w0 : World) (R : World → World → Prop) (G : Nat → World → Prop) (F : Nat → Value → World → Prop) (Q : Exit → Act → World → Prop) (i : Nat) (o : Oper) : Prop :=
  ∀ a w, R w0 w → ToldG ops a0 R G F i o a w →
    if Region.wanted o (yielded ops a.tmps) = true then Oper.wp P o a w (fun a' w' => ∃ v, a' = a.put o.dst v ∧ R w w' ∧ F i v w' ∧ (∀ k, k ≠ i → G k w → G k w') ∧ KeepsF ops F i w w') Q else F i undef w

structure PInvG (ops : Array Oper) (a0 : Act) (w0 : World) (R : World → World → Prop) (G : Nat → World → Prop) (F : Nat → Value → World → Prop) (listed : Array Bool) (a : Act) (w : World) : Prop where
  below : R w0 w
  res : ∀ k, listed.getD k false = false → G k w
  defers : a.defers = a0.defers
  size : a.tmps.size = a0.tmps.size
  lsize : listed.size = ops.size
  fact : ∀ i o d, ops[i]? = some o → o.dst = some d → listed.getD i false = true → F i (a.tmps.getD d undef) w
  eff : ∀ i o, ops[i]? = some o → o.dst = none → listed.getD i false = true → ∃ v, F i v w
  old : ∀ t, (∀ i o, ops[i]? = some o → listed.getD i false = true → o.dst ≠ some t) → a.tmps.getD t undef = a0.tmps.getD t undef
  shut : ∀ i o, ops[i]? = some o → listed.getD i false = true → ∀ e ∈ o.after, Region.binds .any e = true → listed.getD e.on false = true

/-- The form that such a region has: no two operations write one temporary, all that are written are there, each waits for earlier ones alone. -/
structure Formed (ops : Array Oper) (n : Nat) : Prop where
  one : ∀ (i j : Nat) o o' d, ops[i]? = some o → ops[j]? = some o' → o.dst = some d → o'.dst = some d → i = j
  room : ∀ (i : Nat) o d, ops[i]? = some o → o.dst = some d → d < n
  back : ∀ (i : Nat) o, ops[i]? = some o → ∀ e ∈ o.after, Region.binds .any e = true → e.on < i

theorem getD_set (listed : Array Bool) (i j : Nat) (hi : i < listed.size) : (listed.setIfInBounds i true).getD j false = if i = j then true else listed.getD j false := by
  by_cases h : i = j
  · subst h; simp [hi]
  · rw [if_neg h]; exact getD_set_ne false h

theorem put_getD (a : Act) (d t : Nat) (v : Value) : (a.put (some d) v).tmps.getD t undef = if d = t ∧ t < a.tmps.size then v else a.tmps.getD t undef := by
  unfold Act.put
  simp only [Array.getD_eq_getD_getElem?]
  by_cases h : d = t
  · subst h
    by_cases h2 : d < a.tmps.size
    · simp [h2]
    · simp [h2]
  · rw [Array.getElem?_setIfInBounds_ne h, if_neg (fun hh => h hh.1)]
theorem put_size (a : Act) (d : Option Tmp) (v : Value) : (a.put d v).tmps.size = a.tmps.size := by
  unfold Act.put; cases d <;> simp
theorem put_defers' (a : Act) (d : Option Tmp) (v : Value) : (a.put d v).defers = a.defers := by
  unfold Act.put; cases d <;> rfl

theorem PInvG.step (hR : Goes R) (hf : Formed ops a0.tmps.size) {listed : Array Bool} {a : Act} {w w' : World} (h : PInvG ops a0 w0 R G F listed a w) {i : Nat} {o : Oper} (ho : ops[i]? = some o)
    (hedge : ∀ e ∈ o.after, Region.binds .any e = true → listed.getD e.on false = true) {v : Value} (hb : R w w') (hv : F i v w') (hun : listed.getD i false = false) (hG : ∀ k, k ≠ i → G k w → G k w') (hK : KeepsF ops F i w w') :
    PInvG ops a0 w0 R G F (listed.setIfInBounds i true) (a.put o.dst v) w' := by
  have hil : i < listed.size := by rw [h.lsize]; exact (Array.getElem?_eq_some_iff.1 ho).1
  refine ⟨hR.trans _ _ _ h.below hb, fun k hk => ?_, by rw [put_defers']; exact h.defers, by rw [put_size]; exact h.size, by simp [h.lsize], ?_, ?_, ?_, ?_⟩
  · rw [getD_set _ _ _ hil] at hk
    by_cases hik : i = k
    · rw [if_pos hik] at hk; cases hk
    · rw [if_neg hik] at hk
      exact hG k (fun e => hik e.symm) (h.res k hk)
  · intro j oj d hj hd hl
    rw [getD_set _ _ _ hil] at hl
    by_cases hij : i = j
    · subst hij
      rw [ho] at hj
      injection hj with hj
      subst hj
      rw [hd, put_getD, if_pos ⟨rfl, by rw [h.size]; exact hf.room _ _ _ ho hd⟩]
      exact hv
    · rw [if_neg hij] at hl
      have hk := hK j _ (fun e => hij e.symm) (fun oj' hj' e he hbe heq => by
        have h1 := h.shut j oj' hj' hl e he hbe
        rw [heq, hun] at h1; cases h1) (h.fact j oj d hj hd hl)
      cases hod : o.dst with
      | none => exact hk
      | some d' =>
        rw [put_getD, if_neg (fun hh => hij (hf.one i j o oj d ho hj (by rw [hod, hh.1]) hd))]
        exact hk
  · intro j oj hj hd hl
    rw [getD_set _ _ _ hil] at hl
    by_cases hij : i = j
    · subst hij; exact ⟨v, hv⟩
    · rw [if_neg hij] at hl
      obtain ⟨u, hu⟩ := h.eff j oj hj hd hl
      exact ⟨u, hK j u (fun e => hij e.symm) (fun oj' hj' e he hbe heq => by
        have h1 := h.shut j oj' hj' hl e he hbe
        rw [heq, hun] at h1; cases h1) hu⟩
  · intro t ht
    have h1 := h.old t (fun j oj hj hl => ht j oj hj (by rw [getD_set _ _ _ hil]; split <;> simp_all))
    cases hod : o.dst with
    | none => exact h1
    | some d' =>
      have := ht i o ho (by rw [getD_set _ _ _ hil, if_pos rfl])
      rw [put_getD, if_neg (fun hh => this (by rw [hod, hh.1]))]
      exact h1
  · intro j oj hj hl e he hbd
    rw [getD_set _ _ _ hil] at hl ⊢
    split
    · rfl
    · by_cases hij : i = j
      · subst hij
        rw [ho] at hj
        injection hj with hj
        subst hj
        exact hedge e he hbd
      · rw [if_neg hij] at hl
        exact h.shut j oj hj hl e he hbd

theorem PInvG.told {listed : Array Bool} {a : Act} {w : World} (h : PInvG ops a0 w0 R G F listed a w) {i : Nat} {o : Oper} (hun : listed.getD i true = false)
    (hedge : ∀ e ∈ o.after, Region.binds .any e = true → listed.getD e.on false = true) : ToldG ops a0 R G F i o a w := by
  have hun' : listed.getD i false = false := by
    rcases Nat.lt_or_ge i listed.size with h' | h'
    · simp [h'] at hun ⊢; exact hun
    · simp [Array.getElem?_eq_none h']
  refine ⟨fun e he hb oj d hj hd => h.fact e.on oj d hj hd (hedge e he hb), fun t ht => h.old t fun j oj hj hl hd => ?_, h.defers, fun k hk => h.res k ?_⟩
  · rcases ht j oj hj hd with rfl | ⟨e, he, hb, rfl⟩
    · rw [hun'] at hl; cases hl
    · have := h.shut j oj hj hl e he hb
      rw [hun'] at this; cases this
  · rcases hk with rfl | ⟨ok, ho, e, he, hb, rfl⟩
    · exact hun'
    · cases hl : listed.getD k false with
      | false => rfl
      | true => rw [h.shut k ok ho hl e he hb] at hun'; cases hun'

/-- Where nothing may come up, all have. -/
theorem all_listed (hf : ∀ (i : Nat) o, ops[i]? = some o → ∀ e ∈ o.after, Region.binds .any e = true → e.on < i) {listed : Array Bool} (hs : listed.size = ops.size) (h : Region.ready .any ops listed = []) :
    ∀ i, i < ops.size → listed.getD i false = true := by
  intro i
  induction i using Nat.strongRecOn with
  | ind i ih =>
    intro hi
    cases hl : listed.getD i false with
    | true => rfl
    | false =>
      exfalso
      have hm : i ∈ Region.ready .any ops listed := by
        rw [mem_ready]
        refine ⟨?_, ops[i], Array.getElem?_eq_getElem hi, fun e he hb => ih e.on (hf i _ (Array.getElem?_eq_getElem hi) e he hb) (by have := hf i _ (Array.getElem?_eq_getElem hi) e he hb; omega)⟩
        have hi2 : i < listed.size := by omega
        simp [hi2] at hl ⊢
        exact hl
      rw [h] at hm
      cases hm

theorem count_step (listed : Array Bool) (i : Nat) (hi : i < listed.size) (h : listed.getD i true = false) : (listed.setIfInBounds i true).toList.count false + 1 = listed.toList.count false := by
  rw [Array.toList_setIfInBounds]
  have hi' : i < listed.toList.length := by simpa using hi
  have he : listed.toList[i] = false := by simp [hi] at h; simpa using h
  rw [List.count_set (h := hi')]
  have hpos : 0 < listed.toList.count false := List.count_pos_iff.2 (he ▸ List.getElem_mem hi')
  rw [he]
  simp only [beq_self_eq_true, if_true, show (true == false) = false from rfl, Bool.false_eq_true, if_false]
  omega

theorem wpAny_persG (hR : Goes R) (hf : Formed ops a0.tmps.size) (hall : ∀ i o, ops[i]? = some o → ShownG P ops a0 w0 R G F Q i o)
    (hfin : ∀ listed a w, (∀ i, i < ops.size → listed.getD i false = true) → PInvG ops a0 w0 R G F listed a w → Q .normal a w) :
    ∀ (fuel : Nat) (listed : Array Bool) (a : Act) (w : World), listed.toList.count false ≤ fuel → PInvG ops a0 w0 R G F listed a w → wpAny P .any ops Q fuel listed a w
  | 0, listed, a, w, hc, h => by
    have hr : Region.ready .any ops listed = [] := by
      cases hr : Region.ready .any ops listed with
      | nil => rfl
      | cons i l =>
        exfalso
        have hi : i ∈ Region.ready .any ops listed := by rw [hr]; simp
        obtain ⟨h0, o, ho, _⟩ := mem_ready.1 hi
        have hil : i < listed.size := by rw [h.lsize]; exact (Array.getElem?_eq_some_iff.1 ho).1
        have := count_step listed i hil h0
        omega
    exact ⟨hr, hfin _ _ _ (all_listed hf.back h.lsize hr) h⟩
  | fuel + 1, listed, a, w, hc, h => by
    refine ⟨fun hr => hfin _ _ _ (all_listed hf.back h.lsize hr) h, fun i hi => ?_⟩
    obtain ⟨h0, o, ho, hedge⟩ := mem_ready.1 hi
    have hil : i < listed.size := by rw [h.lsize]; exact (Array.getElem?_eq_some_iff.1 ho).1
    have hs := hall i o ho a w h.below (h.told h0 hedge)
    have hcs := count_step listed i hil h0
    have hun' : listed.getD i false = false := by
      simp [hil] at h0 ⊢
      exact h0
    unfold wpOp
    simp only [ho]
    split
    · rename_i hw
      rw [if_pos hw] at hs
      refine .inl (Oper.wp_mono (fun a' w' ⟨v, he, hb, hv, hg, hkf⟩ => ?_) hs)
      subst he
      exact wpAny_persG hR hf hall hfin fuel _ _ _ (by omega) (h.step hR hf ho hedge hb hv hun' hg hkf)
    · rename_i hw
      rw [if_neg hw] at hs
      exact wpAny_persG hR hf hall hfin fuel _ _ _ (by omega) (h.step hR hf ho hedge (hR.refl _) hs hun' (fun k _ h => h) (fun _ _ _ _ h => h))

/-- All temporaries of the region, put. -/
def putAll (x : Nat → Value) : Nat → List Oper → Act → Act
  | _, [], a => a
  | k, o :: l, a => putAll x (k + 1) l (a.put o.dst (x k))

theorem act_ext {a b : Act} (hs : a.tmps.size = b.tmps.size) (hd : a.defers = b.defers) (h : ∀ t, a.tmps.getD t undef = b.tmps.getD t undef) : a = b := by
  obtain ⟨at1, ad⟩ := a
  obtain ⟨bt, bd⟩ := b
  simp only at hs hd h
  subst hd
  congr 1
  apply Array.ext hs
  intro i h1 h2
  have := h i
  simpa [h1, h2] using this

theorem putAll_is (x : Nat → Value) (a : Act) (hx : ∀ (i : Nat) o d, ops[i]? = some o → o.dst = some d → x i = a.tmps.getD d undef) :
    ∀ (l : List Oper) (k : Nat) (a1 : Act), (∀ j, l[j]? = ops[k + j]?) → a1.tmps.size = a.tmps.size → a1.defers = a.defers →
      (∀ t, (∀ (j : Nat) oj, k ≤ j → ops[j]? = some oj → oj.dst ≠ some t) → a1.tmps.getD t undef = a.tmps.getD t undef) → putAll x k l a1 = a
  | [], k, a1, hl, hs, hd, h => act_ext hs hd fun t => h t fun j oj hj ho => by
      have := hl (j - k)
      rw [show k + (j - k) = j from by omega, ho] at this
      cases this
  | o :: l, k, a1, hl, hs, hd, h => by
    unfold putAll
    have h0 : ops[k]? = some o := by simpa using (hl 0).symm
    refine putAll_is x a hx l (k + 1) _ (fun j => by have := hl (j + 1); simpa [Nat.add_assoc, Nat.add_comm 1 j] using this) (by rw [put_size]; exact hs) (by rw [put_defers']; exact hd) fun t ht => ?_
    cases hod : o.dst with
    | none =>
      refine h t fun j oj hj ho => ?_
      rcases Nat.eq_or_lt_of_le hj with rfl | hlt
      · rw [h0] at ho; injection ho with ho; subst ho; rw [hod]; simp
      · exact ht j oj hlt ho
    | some d =>
      rw [put_getD]
      by_cases hdt : d = t
      · subst hdt
        rw [hx k o d h0 hod]
        by_cases hlt : d < a1.tmps.size
        · rw [if_pos ⟨rfl, hlt⟩]
        · rw [if_neg (fun hh => hlt hh.2)]
          simp only [Array.getD_eq_getD_getElem?]
          have h1 : a1.tmps.size ≤ d := Nat.le_of_not_lt hlt
          have h2 : a.tmps.size ≤ d := hs ▸ h1
          rw [Array.getElem?_eq_none h1, Array.getElem?_eq_none h2]
      · rw [if_neg (fun hh => hdt hh.1)]
        refine h t fun j oj hj ho => ?_
        rcases Nat.eq_or_lt_of_le hj with rfl | hlt
        · rw [h0] at ho; injection ho with ho; subst ho; rw [hod]; simp [hdt]
        · exact ht j oj hlt ho

/-- The region: each operation shown once. -/
theorem wp_region_persG {id : Nat} {l : List Oper} {a0 : Act} {w : World} (hm : P.follows .mixedOrders = true) (hf : Formed l.toArray a0.tmps.size) (hR : Goes R) (hG : ∀ k, G k w.drew) (F : Nat → Value → World → Prop)
    (hall : ∀ i o, l[i]? = some o → ShownG P l.toArray a0 w.drew R G F Q i o)
    (hfin : ∀ (x : Nat → Value) (w' : World), R w.drew w' → (∀ i o d, l[i]? = some o → o.dst = some d → F i (x i) w') → (∀ i o, l[i]? = some o → o.dst = none → ∃ v, F i v w') → Q .normal (putAll x 0 l a0) w') :
    (Code.region id l.toArray true).wp P Q a0 w := by
  refine wp_region_any hm (wpAny_persG (w0 := w.drew) hR hf (fun i o ho => hall i o (by simpa using ho)) (fun listed a w' hl h => ?_) _ _ _ _ (by simp) ⟨hR.refl _, fun k _ => hG k, rfl, rfl, by simp, ?_, ?_, fun _ _ => rfl, ?_⟩)
  · have := hfin (fun i => match (l[i]?).bind (·.dst) with | some d => a.tmps.getD d undef | none => undef) w' h.below (fun i o d ho hd => by
      have hi : i < l.toArray.size := (Array.getElem?_eq_some_iff.1 (show l.toArray[i]? = some o by simpa using ho)).1
      simp only [ho, Option.bind_some, hd]
      exact h.fact i o d (by simpa using ho) hd (hl i hi)) (fun i o ho hd => by
      have hi : i < l.toArray.size := (Array.getElem?_eq_some_iff.1 (show l.toArray[i]? = some o by simpa using ho)).1
      exact h.eff i o (by simpa using ho) hd (hl i hi))
    rw [putAll_is (ops := l.toArray) _ a (fun i o d ho hd => by
      simp only [show l[i]? = some o from by simpa using ho, Option.bind_some, hd]) l 0 a0 (by simp) h.size.symm h.defers.symm (fun t ht => (h.old t fun i o ho _ => ht i o (Nat.zero_le _) ho).symm)] at this
    exact this
  · intro i o d ho hd hl
    exfalso
    simp at hl
    by_cases hi : i < l.length <;> simp_all
  · intro i o ho hd hl
    exfalso
    simp at hl
    by_cases hi : i < l.length <;> simp_all
  · intro i o ho hl
    exfalso
    simp at hl
    by_cases hi : i < l.length <;> simp_all

/-- The form, by a Bool. -/
def formedB (l : List Oper) (n : Nat) : Bool :=
  (List.range l.length).all fun i => match l[i]? with
    | none => true
    | some o => (match o.dst with
        | none => true
        | some d => decide (d < n) && (List.range l.length).all fun j => match l[j]? with
            | none => true
            | some o' => i == j || o'.dst != some d) &&
      o.after.all fun e => !Region.binds .any e || decide (e.on < i)
theorem formed_of {l : List Oper} {n : Nat} (h : formedB l n = true) : Formed l.toArray n := by
  unfold formedB at h
  rw [List.all_eq_true] at h
  have H : ∀ (i : Nat) o, l[i]? = some o → _ := fun i o ho => h i (List.mem_range.2 (by
    rcases Nat.lt_or_ge i l.length with h1 | h1
    · exact h1
    · rw [List.getElem?_eq_none h1] at ho; cases ho))
  refine ⟨fun i j o o' d ho ho' hd hd' => ?_, fun i o d ho hd => ?_, fun i o ho e he hb => ?_⟩
  · have hi : l[i]? = some o := by simpa using ho
    have hj : l[j]? = some o' := by simpa using ho'
    have h1 := H i o hi
    simp only [hi, hd, Bool.and_eq_true, decide_eq_true_eq, List.all_eq_true] at h1
    have h2 := h1.1.2 j (List.mem_range.2 (by
      rcases Nat.lt_or_ge j l.length with h1 | h1
      · exact h1
      · rw [List.getElem?_eq_none h1] at hj; cases hj))
    simp only [hj, hd', Bool.or_eq_true, beq_iff_eq, bne_self_eq_false, Bool.false_eq_true, or_false] at h2
    exact h2
  · have hi : l[i]? = some o := by simpa using ho
    have h1 := H i o hi
    simp only [hi, hd, Bool.and_eq_true, decide_eq_true_eq] at h1
    exact h1.1.1
  · have hi : l[i]? = some o := by simpa using ho
    have h1 := H i o hi
    simp only [hi, Bool.and_eq_true, Array.all_eq_true_iff_forall_mem, Bool.or_eq_true, Bool.not_eq_true', decide_eq_true_eq] at h1
    rcases h1.2 e he with h2 | h2
    · rw [hb] at h2; cases h2
    · exact h2
end
end Go.Proofs.Ytmldelgbmadegaa.PG

/- Operations of a region, shown one by one: what they lean on, by numbers. Over any program. -/
namespace Go.Proofs.Ytmldelgbmadegaa.PG
open Go.RowKit
set_option linter.unusedVariables false
section
variable {P : Program} {ops : Array Oper} {a0 : Act} {w0 : World} {R : World → World → Prop} {G : Nat → World → Prop} {F : Nat → Value → World → Prop} {Q : Exit → Act → World → Prop} {i : Nat} {o : Oper} {a : Act} {w : World}

theorem after_of {es : Array Edge} {j : Nat} (h : (es.any fun e => Region.binds .any e && e.on == j) = true) : ∃ e ∈ es, Region.binds .any e = true ∧ e.on = j := by
  rw [Array.any_eq_true'] at h
  obtain ⟨e, he, h2⟩ := h
  simp only [Bool.and_eq_true, beq_iff_eq] at h2
  exact ⟨e, he, h2.1, h2.2⟩
theorem ToldG.at_ (T : ToldG ops a0 R G F i o a w) (j d : Nat) (h1 : (o.after.any fun e => Region.binds .any e && e.on == j) = true) (h2 : ((ops[j]?).bind (·.dst)) = some d) : F j (a.eval (.tmp d)) w := by
  obtain ⟨e, he, hb, rfl⟩ := after_of h1
  cases ho : ops[e.on]? with
  | none => rw [ho] at h2; cases h2
  | some oj =>
    rw [ho] at h2
    exact T.dep e he hb oj d ho h2
/-- Nobody turns temporary t ahead of i. -/
def wasB (ops : Array Oper) (i t : Nat) : Bool := (List.range ops.size).all fun j => match ops[j]? with
  | none => true
  | some oj => oj.dst != some t || j == i || oj.after.any fun e => Region.binds .any e && e.on == i
theorem ToldG.was (T : ToldG ops a0 R G F i o a w) (t : Nat) (h : wasB ops i t = true) : a.eval (.tmp t) = a0.eval (.tmp t) := by
  refine T.old t fun j oj hj hd => ?_
  unfold wasB at h
  rw [List.all_eq_true] at h
  have h1 := h j (List.mem_range.2 (Array.getElem?_eq_some_iff.1 hj).1)
  simp only [hj, hd, bne_self_eq_false, Bool.false_or, Bool.or_eq_true, beq_iff_eq] at h1
  rcases h1 with h1 | h1
  · exact .inl h1
  · exact .inr (after_of h1)
theorem ToldG.own (T : ToldG ops a0 R G F i o a w) : G i w := T.res i (.inl rfl)
theorem ToldG.yet (T : ToldG ops a0 R G F i o a w) (k : Nat) (h : (((ops[k]?).map fun ok => ok.after.any fun e => Region.binds .any e && e.on == i) == some true) = true) : G k w := by
  cases ho : ops[k]? with
  | none => rw [ho] at h; cases h
  | some ok =>
    rw [ho] at h
    simp only [Option.map_some, beq_iff_eq, Option.some.injEq] at h
    exact T.res k (.inr ⟨ok, ho, after_of h⟩)
theorem waits_no {j : Nat} (h : (((ops[j]?).map fun ok => ok.after.any fun e => Region.binds .any e && e.on == i) == some true) = true) (hw : ∀ oj, ops[j]? = some oj → ∀ e ∈ oj.after, Region.binds .any e = true → e.on ≠ i) : False := by
  cases ho : ops[j]? with
  | none => rw [ho] at h; cases h
  | some ok =>
    rw [ho] at h
    simp only [Option.map_some, beq_iff_eq, Option.some.injEq] at h
    obtain ⟨e, he, hb, hon⟩ := after_of h
    exact hw ok ho e he hb hon
theorem wanted_none (hg : o.guard = none) (y : Nat → Option Bool) : Region.wanted o y = true := by simp [Region.wanted, hg]

/-- What is asked behind an operation. -/
def Post (ops : Array Oper) (R : World → World → Prop) (G : Nat → World → Prop) (F : Nat → Value → World → Prop) (i : Nat) (w : World) (v : Value) (w' : World) : Prop :=
  R w w' ∧ F i v w' ∧ (∀ k, k ≠ i → G k w → G k w') ∧ KeepsF ops F i w w'
theorem Post.pure (hR : Goes R) {v : Value} (h : F i v w) : Post ops R G F i w v w := ⟨hR.refl _, h, fun _ _ h => h, fun _ _ _ _ h => h⟩
theorem shown_val (hg : o.guard = none) (h : ∀ a w, R w0 w → ToldG ops a0 R G F i o a w → ∃ v w', (execOp a.eval o).run P w = .ok (.value v) w' ∧ Post ops R G F i w v w') : ShownG P ops a0 w0 R G F Q i o := by
  intro a w hr T
  rw [if_pos (wanted_none hg _)]
  obtain ⟨v, w', h1, h2, h3, h4, h5⟩ := h a w hr T
  unfold Oper.wp
  rw [h1]
  exact ⟨v, rfl, h2, h3, h4, h5⟩
theorem shown_skip (hg : o.guard = none) (h : ∀ a w, R w0 w → ToldG ops a0 R G F i o a w → ∃ w', (execOp a.eval o).run P w = .ok .skip w' ∧ Post ops R G F i w undef w') : ShownG P ops a0 w0 R G F Q i o := by
  intro a w hr T
  rw [if_pos (wanted_none hg _)]
  obtain ⟨w', h1, h2, h3, h4, h5⟩ := h a w hr T
  unfold Oper.wp
  rw [h1]
  exact ⟨undef, rfl, h2, h3, h4, h5⟩
theorem shown_call (hg : o.guard = none) (f : FuncId) (h : ∀ a w, R w0 w → ToldG ops a0 R G F i o a w → ∃ args, (execOp a.eval o).run P w = .ok (.enter f args) w ∧ Calls P f args w fun e w' => ∃ v, e = .returned v ∧ Post ops R G F i w v w') : ShownG P ops a0 w0 R G F Q i o := by
  intro a w hr T
  rw [if_pos (wanted_none hg _)]
  obtain ⟨args, h1, h2⟩ := h a w hr T
  unfold Oper.wp
  rw [h1]
  refine h2.mono fun e w' hh => ?_
  obtain ⟨v, rfl, h2, h3, h4, h5⟩ := hh
  exact ⟨v, rfl, h2, h3, h4, h5⟩
/-- A temporary that holds a truth is yielded. -/
theorem yielded_of {tmps : Array Value} {g d : Nat} {b : Bool} (h2 : ((ops[g]?).bind (·.dst)) = some d) (h : tmps.getD d undef = .bool b) : yielded ops tmps g = some b := by
  unfold yielded
  rw [h2]
  simp only [Array.getD_eq_getD_getElem?] at h
  cases hd : tmps[d]? with
  | none => rw [hd] at h; simp [undef] at h
  | some v =>
    rw [hd] at h
    simp only [Option.getD_some] at h
    subst h
    simp [hd]
theorem wanted_if {g d : Nat} {b c : Bool} (hg : o.guard = some (g, b)) (T : ToldG ops a0 R G F i o a w) (h1 : (o.after.any fun e => Region.binds .any e && e.on == g) = true) (h2 : ((ops[g]?).bind (·.dst)) = some d) (hF : ∀ v w, F g v w → v = .bool c) : Region.wanted o (yielded ops a.tmps) = (c == b) := by
  have h := hF _ _ (T.at_ g d h1 h2)
  have hy := yielded_of (ops := ops) (tmps := a.tmps) h2 h
  simp only [Region.wanted, hg, hy]
  cases b <;> cases c <;> rfl
/-- Guarded, the guard met. -/
theorem shown_val_if (g d : Nat) (b : Bool) (hg : o.guard = some (g, b)) (h1 : (o.after.any fun e => Region.binds .any e && e.on == g) = true) (h2 : ((ops[g]?).bind (·.dst)) = some d) (hF : ∀ v w, F g v w → v = .bool b)
    (h : ∀ a w, R w0 w → ToldG ops a0 R G F i o a w → ∃ v w', (execOp a.eval o).run P w = .ok (.value v) w' ∧ Post ops R G F i w v w') : ShownG P ops a0 w0 R G F Q i o := by
  intro a w hr T
  rw [if_pos (by rw [wanted_if hg T h1 h2 hF]; simp)]
  obtain ⟨v, w', h1, h2, h3, h4, h5⟩ := h a w hr T
  unfold Oper.wp
  rw [h1]
  exact ⟨v, rfl, h2, h3, h4, h5⟩
theorem shown_call_if (g d : Nat) (b : Bool) (hg : o.guard = some (g, b)) (h1 : (o.after.any fun e => Region.binds .any e && e.on == g) = true) (h2 : ((ops[g]?).bind (·.dst)) = some d) (hF : ∀ v w, F g v w → v = .bool b) (f : FuncId)
    (h : ∀ a w, R w0 w → ToldG ops a0 R G F i o a w → ∃ args, (execOp a.eval o).run P w = .ok (.enter f args) w ∧ Calls P f args w fun e w' => ∃ v, e = .returned v ∧ Post ops R G F i w v w') : ShownG P ops a0 w0 R G F Q i o := by
  intro a w hr T
  rw [if_pos (by rw [wanted_if hg T h1 h2 hF]; simp)]
  obtain ⟨args, h1, h2⟩ := h a w hr T
  unfold Oper.wp
  rw [h1]
  refine h2.mono fun e w' hh => ?_
  obtain ⟨v, rfl, h2, h3, h4, h5⟩ := hh
  exact ⟨v, rfl, h2, h3, h4, h5⟩
/-- Guarded, the guard not met. -/
theorem shown_not (g d : Nat) (b : Bool) (hg : o.guard = some (g, b)) (h1 : (o.after.any fun e => Region.binds .any e && e.on == g) = true) (h2 : ((ops[g]?).bind (·.dst)) = some d) (hF : ∀ v w, F g v w → v = .bool (!b)) (h : ∀ w, F i undef w) : ShownG P ops a0 w0 R G F Q i o := by
  intro a w hr T
  rw [if_neg (by rw [wanted_if hg T h1 h2 hF]; cases b <;> simp)]
  exact h w
/-- What another operation left, handed on. -/
theorem shown_move (x : Operand) (hg : o.guard = none) (hop : o.op = .move x ∨ o.op = .assign x) (hR : Goes R) (h : ∀ a w, R w0 w → ToldG ops a0 R G F i o a w → F i (a.eval x) w) : ShownG P ops a0 w0 R G F Q i o :=
  shown_val hg fun a w hr T => ⟨a.eval x, w, by rcases hop with h | h <;> simp [execOp, h], Post.pure hR (h a w hr T)⟩
end
end Go.Proofs.Ytmldelgbmadegaa.PG

/- As XPerl, with one thing more: I L a w, what holds of all temporaries and the world when those of L were carried out; and F is kept of what lies in the temporaries alone.
As XPerg, but that what an operation left is kept only as long as one that was named (nd) needs it, or to the end (fin): the others may use it up.
A region that draws its order: each operation shown once, on what it waits for; whatever order the tape picks, all that was shown holds behind it. R: how the world may turn within the region; G k: what holds till operation k is carried out (it may use it up; the others keep it). Over any program. -/
namespace Go.Proofs.Ytmldelgbmadegaa.PI
open Go.RowKit
set_option linter.unusedVariables false

/-- How worlds may turn: from each to itself, and on. -/
structure Goes (R : World → World → Prop) : Prop where
  refl : ∀ w, R w w
  trans : ∀ a b c, R a b → R b c → R a c
section
variable {P : Program} {ops : Array Oper} {a0 : Act} {w0 : World} {R : World → World → Prop} {G : Nat → World → Prop} {F : Nat → Value → World → Prop} {Q : Exit → Act → World → Prop} {nd : List (Nat × Nat)} {fin : List Nat} {I : (Nat → Bool) → Act → World → Prop}

/-- Those, and i. -/
def upd (L : Nat → Bool) (i : Nat) : Nat → Bool := fun k => if k = i then true else L k
/-- What operation i may lean on: of those that it waits for, what was shown; of a temporary that nobody turns ahead of it, what lay there. -/
structure ToldG (ops : Array Oper) (a0 : Act) (R : World → World → Prop) (G : Nat → World → Prop) (F : Nat → Value → World → Prop) (nd : List (Nat × Nat)) (I : (Nat → Bool) → Act → World → Prop) (L : Nat → Bool) (i : Nat) (o : Oper) (a : Act) (w : World) : Prop where
  dep : ∀ e ∈ o.after, Region.binds .any e = true → (i, e.on) ∈ nd → ∀ oj d, ops[e.on]? = some oj → oj.dst = some d → F e.on (a.tmps.getD d undef) w
  old : ∀ t, (∀ j oj, ops[j]? = some oj → oj.dst = some t → j = i ∨ ∃ e ∈ oj.after, Region.binds .any e = true ∧ e.on = i) → a.tmps.getD t undef = a0.tmps.getD t undef
  defers : a.defers = a0.defers
  res : ∀ k, (k = i ∨ ∃ ok, ops[k]? = some ok ∧ ∃ e ∈ ok.after, Region.binds .any e = true ∧ e.on = i) → G k w
  inv : I L a w
  yetNot : L i = false
  done : ∀ e ∈ o.after, Region.binds .any e = true → L e.on = true
  wait : ∀ k ok, ops[k]? = some ok → (∃ e ∈ ok.after, Region.binds .any e = true ∧ e.on = i) → L k = false
  size : a.tmps.size = a0.tmps.size
  shut : ∀ j oj, ops[j]? = some oj → L j = true → ∀ e ∈ oj.after, Region.binds .any e = true → L e.on = true

/-- Somebody else needs j still. -/
def needB (nd : List (Nat × Nat)) (fin : List Nat) (L : Nat → Bool) (i j : Nat) : Bool := fin.contains j || nd.any fun p => p.2 == j && p.1 != i && !L p.1
/-- Operation i keeps what was shown of the others, as long as somebody needs it, but of those that wait for it. -/
def KeepsF (ops : Array Oper) (F : Nat → Value → World → Prop) (nd : List (Nat × Nat)) (fin : List Nat) (L : Nat → Bool) (a : Act) (i : Nat) (w w' : World) : Prop :=
  ∀ j v, j ≠ i → L j = true → needB nd fin L i j = true → (∀ d, ((ops[j]?).bind (·.dst)) = some d → v = a.tmps.getD d undef) → F j v w → F j v w'
/-- Operation i, shown. -/
def ShownG (P : Program) (ops : Array Oper) (a0 : Act) (w0 : World) (R : World → World → Prop) (G : Nat → World → Prop) (F : Nat → Value → World → Prop) (nd : List (Nat × Nat)) (fin : List Nat) (I : (Nat → Bool) → Act → World → Prop) (Q : Exit → Act → World → Prop) (i : Nat) (o : Oper) : Prop :=
  ∀ a w L, R w0 w → ToldG ops a0 R G F nd I L i o a w →
    if Region.wanted o (yielded ops a.tmps) = true then Oper.wp P o a w (fun a' w' => ∃ v, a' = a.put o.dst v ∧ R w w' ∧ F i v w' ∧ (∀ k, k ≠ i → G k w → G k w') ∧ KeepsF ops F nd fin L a i w w' ∧ I (upd L i) (a.put o.dst v) w') Q else F i undef w ∧ I (upd L i) (a.put o.dst undef) w

/-- Somebody needs still what operation i left. -/
def Live (nd : List (Nat × Nat)) (fin : List Nat) (listed : Array Bool) (i : Nat) : Prop := i ∈ fin ∨ ∃ p ∈ nd, p.2 = i ∧ listed.getD p.1 false = false

structure PInvG (ops : Array Oper) (a0 : Act) (w0 : World) (R : World → World → Prop) (G : Nat → World → Prop) (F : Nat → Value → World → Prop) (nd : List (Nat × Nat)) (fin : List Nat) (I : (Nat → Bool) → Act → World → Prop) (listed : Array Bool) (a : Act) (w : World) : Prop where
  inv : I (fun k => listed.getD k false) a w
  below : R w0 w
  res : ∀ k, listed.getD k false = false → G k w
  defers : a.defers = a0.defers
  size : a.tmps.size = a0.tmps.size
  lsize : listed.size = ops.size
  fact : ∀ i o d, ops[i]? = some o → o.dst = some d → listed.getD i false = true → Live nd fin listed i → F i (a.tmps.getD d undef) w
  eff : ∀ i o, ops[i]? = some o → o.dst = none → listed.getD i false = true → Live nd fin listed i → ∃ v, F i v w
  old : ∀ t, (∀ i o, ops[i]? = some o → listed.getD i false = true → o.dst ≠ some t) → a.tmps.getD t undef = a0.tmps.getD t undef
  shut : ∀ i o, ops[i]? = some o → listed.getD i false = true → ∀ e ∈ o.after, Region.binds .any e = true → listed.getD e.on false = true

/-- The form that such a region has: no two operations write one temporary, all that are written are there, each waits for earlier ones alone. -/
structure Formed (ops : Array Oper) (n : Nat) : Prop where
  one : ∀ (i j : Nat) o o' d, ops[i]? = some o → ops[j]? = some o' → o.dst = some d → o'.dst = some d → i = j
  room : ∀ (i : Nat) o d, ops[i]? = some o → o.dst = some d → d < n
  back : ∀ (i : Nat) o, ops[i]? = some o → ∀ e ∈ o.after, Region.binds .any e = true → e.on < i

theorem getD_set (listed : Array Bool) (i j : Nat) (hi : i < listed.size) : (listed.setIfInBounds i true).getD j false = if i = j then true else listed.getD j false := by
  by_cases h : i = j
  · subst h; simp [hi]
  · rw [if_neg h]; exact getD_set_ne false h

theorem put_getD (a : Act) (d t : Nat) (v : Value) : (a.put (some d) v).tmps.getD t undef = if d = t ∧ t < a.tmps.size then v else a.tmps.getD t undef := by
  unfold Act.put
  simp only [Array.getD_eq_getD_getElem?]
  by_cases h : d = t
  · subst h
    by_cases h2 : d < a.tmps.size
    · simp [h2]
    · simp [h2]
  · rw [Array.getElem?_setIfInBounds_ne h, if_neg (fun hh => h hh.1)]
theorem put_size (a : Act) (d : Option Tmp) (v : Value) : (a.put d v).tmps.size = a.tmps.size := by
  unfold Act.put; cases d <;> simp
theorem put_defers' (a : Act) (d : Option Tmp) (v : Value) : (a.put d v).defers = a.defers := by
  unfold Act.put; cases d <;> rfl

theorem Live.step {listed : Array Bool} {i j : Nat} (hi : i < listed.size) (h : Live nd fin (listed.setIfInBounds i true) j) : Live nd fin listed j ∧ needB nd fin (fun k => listed.getD k false) i j = true := by
  rcases h with h | ⟨p, hp, h1, h2⟩
  · exact ⟨.inl h, by simp [needB, h]⟩
  · rw [getD_set _ _ _ hi] at h2
    by_cases hpi : i = p.1
    · rw [if_pos hpi] at h2; cases h2
    · rw [if_neg hpi] at h2
      refine ⟨.inr ⟨p, hp, h1, h2⟩, ?_⟩
      unfold needB
      rw [Bool.or_eq_true, List.any_eq_true]
      refine .inr ⟨p, hp, ?_⟩
      have h3 : (fun k => listed.getD k false) p.1 = false := h2
      rw [h3]
      simp [h1, Ne.symm hpi]
theorem PInvG.step (hR : Goes R) (hf : Formed ops a0.tmps.size) {listed : Array Bool} {a : Act} {w w' : World} (h : PInvG ops a0 w0 R G F nd fin I listed a w) {i : Nat} {o : Oper} (ho : ops[i]? = some o)
    (hedge : ∀ e ∈ o.after, Region.binds .any e = true → listed.getD e.on false = true) {v : Value} (hb : R w w') (hv : F i v w') (hun : listed.getD i false = false) (hG : ∀ k, k ≠ i → G k w → G k w') (hK : KeepsF ops F nd fin (fun k => listed.getD k false) a i w w') (hI : I (upd (fun k => listed.getD k false) i) (a.put o.dst v) w') :
    PInvG ops a0 w0 R G F nd fin I (listed.setIfInBounds i true) (a.put o.dst v) w' := by
  have hil : i < listed.size := by rw [h.lsize]; exact (Array.getElem?_eq_some_iff.1 ho).1
  have hL : (fun k => (listed.setIfInBounds i true).getD k false) = upd (fun k => listed.getD k false) i := by
    funext k
    rw [getD_set _ _ _ hil]
    unfold upd
    by_cases hik : i = k
    · rw [if_pos hik, if_pos hik.symm]
    · rw [if_neg hik, if_neg (fun e => hik e.symm)]
  refine ⟨by rw [hL]; exact hI, hR.trans _ _ _ h.below hb, fun k hk => ?_, by rw [put_defers']; exact h.defers, by rw [put_size]; exact h.size, by simp [h.lsize], ?_, ?_, ?_, ?_⟩
  · rw [getD_set _ _ _ hil] at hk
    by_cases hik : i = k
    · rw [if_pos hik] at hk; cases hk
    · rw [if_neg hik] at hk
      exact hG k (fun e => hik e.symm) (h.res k hk)
  · intro j oj d hj hd hl hlv
    obtain ⟨hlv, hkb⟩ := hlv.step hil
    rw [getD_set _ _ _ hil] at hl
    by_cases hij : i = j
    · subst hij
      rw [ho] at hj
      injection hj with hj
      subst hj
      rw [hd, put_getD, if_pos ⟨rfl, by rw [h.size]; exact hf.room _ _ _ ho hd⟩]
      exact hv
    · rw [if_neg hij] at hl
      have hk := hK j _ (fun e => hij e.symm) hl hkb (fun d' hd' => by rw [hj] at hd'; simp only [Option.bind_some, hd] at hd'; injection hd' with hd'; rw [hd']) (h.fact j oj d hj hd hl hlv)
      cases hod : o.dst with
      | none => exact hk
      | some d' =>
        rw [put_getD, if_neg (fun hh => hij (hf.one i j o oj d ho hj (by rw [hod, hh.1]) hd))]
        exact hk
  · intro j oj hj hd hl hlv
    obtain ⟨hlv, hkb⟩ := hlv.step hil
    rw [getD_set _ _ _ hil] at hl
    by_cases hij : i = j
    · subst hij; exact ⟨v, hv⟩
    · rw [if_neg hij] at hl
      obtain ⟨u, hu⟩ := h.eff j oj hj hd hl hlv
      exact ⟨u, hK j u (fun e => hij e.symm) hl hkb (fun d' hd' => by rw [hj] at hd'; simp only [Option.bind_some, hd] at hd'; cases hd') hu⟩
  · intro t ht
    have h1 := h.old t (fun j oj hj hl => ht j oj hj (by rw [getD_set _ _ _ hil]; split <;> simp_all))
    cases hod : o.dst with
    | none => exact h1
    | some d' =>
      have := ht i o ho (by rw [getD_set _ _ _ hil, if_pos rfl])
      rw [put_getD, if_neg (fun hh => this (by rw [hod, hh.1]))]
      exact h1
  · intro j oj hj hl e he hbd
    rw [getD_set _ _ _ hil] at hl ⊢
    split
    · rfl
    · by_cases hij : i = j
      · subst hij
        rw [ho] at hj
        injection hj with hj
        subst hj
        exact hedge e he hbd
      · rw [if_neg hij] at hl
        exact h.shut j oj hj hl e he hbd

theorem PInvG.told {listed : Array Bool} {a : Act} {w : World} (h : PInvG ops a0 w0 R G F nd fin I listed a w) {i : Nat} {o : Oper} (hun : listed.getD i true = false)
    (hedge : ∀ e ∈ o.after, Region.binds .any e = true → listed.getD e.on false = true) : ToldG ops a0 R G F nd I (fun k => listed.getD k false) i o a w := by
  have hun' : listed.getD i false = false := by
    rcases Nat.lt_or_ge i listed.size with h' | h'
    · simp [h'] at hun ⊢; exact hun
    · simp [Array.getElem?_eq_none h']
  refine ⟨fun e he hb hn oj d hj hd => h.fact e.on oj d hj hd (hedge e he hb) (.inr ⟨_, hn, rfl, hun'⟩), fun t ht => h.old t fun j oj hj hl hd => ?_, h.defers, fun k hk => h.res k ?_, h.inv, hun', hedge, fun k ok ho ⟨e, he, hb, heq⟩ => ?_, h.size, h.shut⟩
  · rcases ht j oj hj hd with rfl | ⟨e, he, hb, rfl⟩
    · rw [hun'] at hl; cases hl
    · have := h.shut j oj hj hl e he hb
      rw [hun'] at this; cases this
  · rcases hk with rfl | ⟨ok, ho, e, he, hb, rfl⟩
    · exact hun'
    · cases hl : listed.getD k false with
      | false => rfl
      | true => rw [h.shut k ok ho hl e he hb] at hun'; cases hun'
  · cases hl : listed.getD k false with
    | false => rfl
    | true =>
      have := h.shut k ok ho hl e he hb
      rw [heq, hun'] at this
      cases this

/-- Where nothing may come up, all have. -/
theorem all_listed (hf : ∀ (i : Nat) o, ops[i]? = some o → ∀ e ∈ o.after, Region.binds .any e = true → e.on < i) {listed : Array Bool} (hs : listed.size = ops.size) (h : Region.ready .any ops listed = []) :
    ∀ i, i < ops.size → listed.getD i false = true := by
  intro i
  induction i using Nat.strongRecOn with
  | ind i ih =>
    intro hi
    cases hl : listed.getD i false with
    | true => rfl
    | false =>
      exfalso
      have hm : i ∈ Region.ready .any ops listed := by
        rw [mem_ready]
        refine ⟨?_, ops[i], Array.getElem?_eq_getElem hi, fun e he hb => ih e.on (hf i _ (Array.getElem?_eq_getElem hi) e he hb) (by have := hf i _ (Array.getElem?_eq_getElem hi) e he hb; omega)⟩
        have hi2 : i < listed.size := by omega
        simp [hi2] at hl ⊢
        exact hl
      rw [h] at hm
      cases hm

theorem count_step (listed : Array Bool) (i : Nat) (hi : i < listed.size) (h : listed.getD i true = false) : (listed.setIfInBounds i true).toList.count false + 1 = listed.toList.count false := by
  rw [Array.toList_setIfInBounds]
  have hi' : i < listed.toList.length := by simpa using hi
  have he : listed.toList[i] = false := by simp [hi] at h; simpa using h
  rw [List.count_set (h := hi')]
  have hpos : 0 < listed.toList.count false := List.count_pos_iff.2 (he ▸ List.getElem_mem hi')
  rw [he]
  simp only [beq_self_eq_true, if_true, show (true == false) = false from rfl, Bool.false_eq_true, if_false]
  omega

theorem wpAny_persG (hR : Goes R) (hf : Formed ops a0.tmps.size) (hall : ∀ i o, ops[i]? = some o → ShownG P ops a0 w0 R G F nd fin I Q i o)
    (hfin : ∀ listed a w, (∀ i, i < ops.size → listed.getD i false = true) → PInvG ops a0 w0 R G F nd fin I listed a w → Q .normal a w) :
    ∀ (fuel : Nat) (listed : Array Bool) (a : Act) (w : World), listed.toList.count false ≤ fuel → PInvG ops a0 w0 R G F nd fin I listed a w → wpAny P .any ops Q fuel listed a w
  | 0, listed, a, w, hc, h => by
    have hr : Region.ready .any ops listed = [] := by
      cases hr : Region.ready .any ops listed with
      | nil => rfl
      | cons i l =>
        exfalso
        have hi : i ∈ Region.ready .any ops listed := by rw [hr]; simp
        obtain ⟨h0, o, ho, _⟩ := mem_ready.1 hi
        have hil : i < listed.size := by rw [h.lsize]; exact (Array.getElem?_eq_some_iff.1 ho).1
        have := count_step listed i hil h0
        omega
    exact ⟨hr, hfin _ _ _ (all_listed hf.back h.lsize hr) h⟩
  | fuel + 1, listed, a, w, hc, h => by
    refine ⟨fun hr => hfin _ _ _ (all_listed hf.back h.lsize hr) h, fun i hi => ?_⟩
    obtain ⟨h0, o, ho, hedge⟩ := mem_ready.1 hi
    have hil : i < listed.size := by rw [h.lsize]; exact (Array.getElem?_eq_some_iff.1 ho).1
    have hs := hall i o ho a w _ h.below (h.told h0 hedge)
    have hcs := count_step listed i hil h0
    have hun' : listed.getD i false = false := by
      simp [hil] at h0 ⊢
      exact h0
    unfold wpOp
    simp only [ho]
    split
    · rename_i hw
      rw [if_pos hw] at hs
      refine .inl (Oper.wp_mono (fun a' w' ⟨v, he, hb, hv, hg, hkf, hIn⟩ => ?_) hs)
      subst he
      exact wpAny_persG hR hf hall hfin fuel _ _ _ (by omega) (h.step hR hf ho hedge hb hv hun' hg hkf hIn)
    · rename_i hw
      rw [if_neg hw] at hs
      exact wpAny_persG hR hf hall hfin fuel _ _ _ (by omega) (h.step hR hf ho hedge (hR.refl _) hs.1 hun' (fun k _ h => h) (fun _ _ _ _ _ _ h => h) hs.2)

/-- All temporaries of the region, put. -/
def putAll (x : Nat → Value) : Nat → List Oper → Act → Act
  | _, [], a => a
  | k, o :: l, a => putAll x (k + 1) l (a.put o.dst (x k))

theorem act_ext {a b : Act} (hs : a.tmps.size = b.tmps.size) (hd : a.defers = b.defers) (h : ∀ t, a.tmps.getD t undef = b.tmps.getD t undef) : a = b := by
  obtain ⟨at1, ad⟩ := a
  obtain ⟨bt, bd⟩ := b
  simp only at hs hd h
  subst hd
  congr 1
  apply Array.ext hs
  intro i h1 h2
  have := h i
  simpa [h1, h2] using this

theorem putAll_is (x : Nat → Value) (a : Act) (hx : ∀ (i : Nat) o d, ops[i]? = some o → o.dst = some d → x i = a.tmps.getD d undef) :
    ∀ (l : List Oper) (k : Nat) (a1 : Act), (∀ j, l[j]? = ops[k + j]?) → a1.tmps.size = a.tmps.size → a1.defers = a.defers →
      (∀ t, (∀ (j : Nat) oj, k ≤ j → ops[j]? = some oj → oj.dst ≠ some t) → a1.tmps.getD t undef = a.tmps.getD t undef) → putAll x k l a1 = a
  | [], k, a1, hl, hs, hd, h => act_ext hs hd fun t => h t fun j oj hj ho => by
      have := hl (j - k)
      rw [show k + (j - k) = j from by omega, ho] at this
      cases this
  | o :: l, k, a1, hl, hs, hd, h => by
    unfold putAll
    have h0 : ops[k]? = some o := by simpa using (hl 0).symm
    refine putAll_is x a hx l (k + 1) _ (fun j => by have := hl (j + 1); simpa [Nat.add_assoc, Nat.add_comm 1 j] using this) (by rw [put_size]; exact hs) (by rw [put_defers']; exact hd) fun t ht => ?_
    cases hod : o.dst with
    | none =>
      refine h t fun j oj hj ho => ?_
      rcases Nat.eq_or_lt_of_le hj with rfl | hlt
      · rw [h0] at ho; injection ho with ho; subst ho; rw [hod]; simp
      · exact ht j oj hlt ho
    | some d =>
      rw [put_getD]
      by_cases hdt : d = t
      · subst hdt
        rw [hx k o d h0 hod]
        by_cases hlt : d < a1.tmps.size
        · rw [if_pos ⟨rfl, hlt⟩]
        · rw [if_neg (fun hh => hlt hh.2)]
          simp only [Array.getD_eq_getD_getElem?]
          have h1 : a1.tmps.size ≤ d := Nat.le_of_not_lt hlt
          have h2 : a.tmps.size ≤ d := hs ▸ h1
          rw [Array.getElem?_eq_none h1, Array.getElem?_eq_none h2]
      · rw [if_neg (fun hh => hdt hh.1)]
        refine h t fun j oj hj ho => ?_
        rcases Nat.eq_or_lt_of_le hj with rfl | hlt
        · rw [h0] at ho; injection ho with ho; subst ho; rw [hod]; simp [hdt]
        · exact ht j oj hlt ho

/-- The region: each operation shown once. -/
theorem wp_region_persG {id : Nat} {l : List Oper} {a0 : Act} {w : World} (nd : List (Nat × Nat)) (fin : List Nat) (hm : P.follows .mixedOrders = true) (hf : Formed l.toArray a0.tmps.size) (hR : Goes R) (hG : ∀ k, G k w.drew) (F : Nat → Value → World → Prop) (hI : I (fun _ => false) a0 w.drew)
    (hall : ∀ i o, l[i]? = some o → ShownG P l.toArray a0 w.drew R G F nd fin I Q i o)
    (hfin : ∀ (x : Nat → Value) (w' : World), R w.drew w' → (∀ i o d, l[i]? = some o → o.dst = some d → i ∈ fin → F i (x i) w') → (∀ i o, l[i]? = some o → o.dst = none → i ∈ fin → ∃ v, F i v w') → I (fun k => decide (k < l.length)) (putAll x 0 l a0) w' → Q .normal (putAll x 0 l a0) w') :
    (Code.region id l.toArray true).wp P Q a0 w := by
  refine wp_region_any hm (wpAny_persG (w0 := w.drew) hR hf (fun i o ho => hall i o (by simpa using ho)) (fun listed a w' hl h => ?_) _ _ _ _ (by simp) ⟨?_, hR.refl _, fun k _ => hG k, rfl, rfl, by simp, ?_, ?_, fun _ _ => rfl, ?_⟩)
  · have := hfin (fun i => match (l[i]?).bind (·.dst) with | some d => a.tmps.getD d undef | none => undef) w' h.below (fun i o d ho hd => by
      have hi : i < l.toArray.size := (Array.getElem?_eq_some_iff.1 (show l.toArray[i]? = some o by simpa using ho)).1
      simp only [ho, Option.bind_some, hd]
      exact fun hfi => h.fact i o d (by simpa using ho) hd (hl i hi) (.inl hfi)) (fun i o ho hd => by
      have hi : i < l.toArray.size := (Array.getElem?_eq_some_iff.1 (show l.toArray[i]? = some o by simpa using ho)).1
      exact fun hfi => h.eff i o (by simpa using ho) hd (hl i hi) (.inl hfi))
    have hLL : (fun k => listed.getD k false) = fun k => decide (k < l.length) := by
      funext k
      by_cases hk : k < l.length
      · rw [decide_eq_true hk]; exact hl k (by simpa using hk)
      · rw [decide_eq_false hk]
        have hk2 : listed.size ≤ k := by rw [h.lsize]; simpa using hk
        simp [Array.getElem?_eq_none hk2]
    rw [putAll_is (ops := l.toArray) _ a (fun i o d ho hd => by
      simp only [show l[i]? = some o from by simpa using ho, Option.bind_some, hd]) l 0 a0 (by simp) h.size.symm h.defers.symm (fun t ht => (h.old t fun i o ho _ => ht i o (Nat.zero_le _) ho).symm)] at this
    exact this (by rw [← hLL]; exact h.inv)
  · have e : (fun k => (Array.replicate l.toArray.size false).getD k false) = fun _ => false := by
      funext k
      by_cases hk : k < l.length <;> simp [hk]
    rw [e]
    exact hI
  · intro i o d ho hd hl
    exfalso
    simp at hl
    by_cases hi : i < l.length <;> simp_all
  · intro i o ho hd hl
    exfalso
    simp at hl
    by_cases hi : i < l.length <;> simp_all
  · intro i o ho hl
    exfalso
    simp at hl
    by_cases hi : i < l.length <;> simp_all

/-- The form, by a Bool. -/
def formedB (l : List Oper) (n : Nat) : Bool :=
  (List.range l.length).all fun i => match l[i]? with
    | none => true
    | some o => (match o.dst with
        | none => true
        | some d => decide (d < n) && (List.range l.length).all fun j => match l[j]? with
            | none => true
            | some o' => i == j || o'.dst != some d) &&
      o.after.all fun e => !Region.binds .any e || decide (e.on < i)
theorem formed_of {l : List Oper} {n : Nat} (h : formedB l n = true) : Formed l.toArray n := by
  unfold formedB at h
  rw [List.all_eq_true] at h
  have H : ∀ (i : Nat) o, l[i]? = some o → _ := fun i o ho => h i (List.mem_range.2 (by
    rcases Nat.lt_or_ge i l.length with h1 | h1
    · exact h1
    · rw [List.getElem?_eq_none h1] at ho; cases ho))
  refine ⟨fun i j o o' d ho ho' hd hd' => ?_, fun i o d ho hd => ?_, fun i o ho e he hb => ?_⟩
  · have hi : l[i]? = some o := by simpa using ho
    have hj : l[j]? = some o' := by simpa using ho'
    have h1 := H i o hi
    simp only [hi, hd, Bool.and_eq_true, decide_eq_true_eq, List.all_eq_true] at h1
    have h2 := h1.1.2 j (List.mem_range.2 (by
      rcases Nat.lt_or_ge j l.length with h1 | h1
      · exact h1
      · rw [List.getElem?_eq_none h1] at hj; cases hj))
    simp only [hj, hd', Bool.or_eq_true, beq_iff_eq, bne_self_eq_false, Bool.false_eq_true, or_false] at h2
    exact h2
  · have hi : l[i]? = some o := by simpa using ho
    have h1 := H i o hi
    simp only [hi, hd, Bool.and_eq_true, decide_eq_true_eq] at h1
    exact h1.1.1
  · have hi : l[i]? = some o := by simpa using ho
    have h1 := H i o hi
    simp only [hi, Bool.and_eq_true, Array.all_eq_true_iff_forall_mem, Bool.or_eq_true, Bool.not_eq_true', decide_eq_true_eq] at h1
    rcases h1.2 e he with h2 | h2
    · rw [hb] at h2; cases h2
    · exact h2
end
end Go.Proofs.Ytmldelgbmadegaa.PI

/- Operations of a region, shown one by one: what they lean on, by numbers. Over any program. -/
namespace Go.Proofs.Ytmldelgbmadegaa.PI
open Go.RowKit
set_option linter.unusedVariables false
section
variable {P : Program} {ops : Array Oper} {a0 : Act} {w0 : World} {R : World → World → Prop} {G : Nat → World → Prop} {F : Nat → Value → World → Prop} {Q : Exit → Act → World → Prop} {nd : List (Nat × Nat)} {fin : List Nat} {I : (Nat → Bool) → Act → World → Prop} {L : Nat → Bool} {i : Nat} {o : Oper} {a : Act} {w : World}

theorem after_of {es : Array Edge} {j : Nat} (h : (es.any fun e => Region.binds .any e && e.on == j) = true) : ∃ e ∈ es, Region.binds .any e = true ∧ e.on = j := by
  rw [Array.any_eq_true'] at h
  obtain ⟨e, he, h2⟩ := h
  simp only [Bool.and_eq_true, beq_iff_eq] at h2
  exact ⟨e, he, h2.1, h2.2⟩
theorem ToldG.at_ (T : ToldG ops a0 R G F nd I L i o a w) (j d : Nat) (h1 : (o.after.any fun e => Region.binds .any e && e.on == j) = true) (hn : nd.contains (i, j) = true) (h2 : ((ops[j]?).bind (·.dst)) = some d) : F j (a.eval (.tmp d)) w := by
  obtain ⟨e, he, hb, rfl⟩ := after_of h1
  cases ho : ops[e.on]? with
  | none => rw [ho] at h2; cases h2
  | some oj =>
    rw [ho] at h2
    exact T.dep e he hb (by simpa using hn) oj d ho h2
/-- Nobody turns temporary t ahead of i. -/
def wasB (ops : Array Oper) (i t : Nat) : Bool := (List.range ops.size).all fun j => match ops[j]? with
  | none => true
  | some oj => oj.dst != some t || j == i || oj.after.any fun e => Region.binds .any e && e.on == i
theorem ToldG.was (T : ToldG ops a0 R G F nd I L i o a w) (t : Nat) (h : wasB ops i t = true) : a.eval (.tmp t) = a0.eval (.tmp t) := by
  refine T.old t fun j oj hj hd => ?_
  unfold wasB at h
  rw [List.all_eq_true] at h
  have h1 := h j (List.mem_range.2 (Array.getElem?_eq_some_iff.1 hj).1)
  simp only [hj, hd, bne_self_eq_false, Bool.false_or, Bool.or_eq_true, beq_iff_eq] at h1
  rcases h1 with h1 | h1
  · exact .inl h1
  · exact .inr (after_of h1)
theorem ToldG.own (T : ToldG ops a0 R G F nd I L i o a w) : G i w := T.res i (.inl rfl)
theorem ToldG.yet (T : ToldG ops a0 R G F nd I L i o a w) (k : Nat) (h : (((ops[k]?).map fun ok => ok.after.any fun e => Region.binds .any e && e.on == i) == some true) = true) : G k w := by
  cases ho : ops[k]? with
  | none => rw [ho] at h; cases h
  | some ok =>
    rw [ho] at h
    simp only [Option.map_some, beq_iff_eq, Option.some.injEq] at h
    exact T.res k (.inr ⟨ok, ho, after_of h⟩)
theorem waits_no {j : Nat} (h : (((ops[j]?).map fun ok => ok.after.any fun e => Region.binds .any e && e.on == i) == some true) = true) (hw : ∀ oj, ops[j]? = some oj → ∀ e ∈ oj.after, Region.binds .any e = true → e.on ≠ i) : False := by
  cases ho : ops[j]? with
  | none => rw [ho] at h; cases h
  | some ok =>
    rw [ho] at h
    simp only [Option.map_some, beq_iff_eq, Option.some.injEq] at h
    obtain ⟨e, he, hb, hon⟩ := after_of h
    exact hw ok ho e he hb hon
theorem ToldG.shut_ (T : ToldG ops a0 R G F nd I L i o a w) (j k : Nat) (h : (((ops[j]?).map fun oj => oj.after.any fun e => Region.binds .any e && e.on == k) == some true) = true) (hl : L j = true) : L k = true := by
  cases ho : ops[j]? with
  | none => rw [ho] at h; cases h
  | some oj =>
    rw [ho] at h
    simp only [Option.map_some, beq_iff_eq, Option.some.injEq] at h
    obtain ⟨e, he, hb, rfl⟩ := after_of h
    exact T.shut j oj ho hl e he hb
theorem wanted_none (hg : o.guard = none) (y : Nat → Option Bool) : Region.wanted o y = true := by simp [Region.wanted, hg]

/-- What is asked behind an operation. -/
def Post (ops : Array Oper) (R : World → World → Prop) (G : Nat → World → Prop) (F : Nat → Value → World → Prop) (nd : List (Nat × Nat)) (fin : List Nat) (I : (Nat → Bool) → Act → World → Prop) (L : Nat → Bool) (a : Act) (i : Nat) (o : Oper) (w : World) (v : Value) (w' : World) : Prop :=
  R w w' ∧ F i v w' ∧ (∀ k, k ≠ i → G k w → G k w') ∧ KeepsF ops F nd fin L a i w w' ∧ I (upd L i) (a.put o.dst v) w'
theorem Post.pure (hR : Goes R) {v : Value} (h : F i v w) (hI : I (upd L i) (a.put o.dst v) w) : Post ops R G F nd fin I L a i o w v w := ⟨hR.refl _, h, fun _ _ h => h, fun _ _ _ _ _ _ h => h, hI⟩
theorem shown_val (hg : o.guard = none) (h : ∀ a w L, R w0 w → ToldG ops a0 R G F nd I L i o a w → ∃ v w', (execOp a.eval o).run P w = .ok (.value v) w' ∧ Post ops R G F nd fin I L a i o w v w') : ShownG P ops a0 w0 R G F nd fin I Q i o := by
  intro a w L hr T
  rw [if_pos (wanted_none hg _)]
  obtain ⟨v, w', h1, h2, h3, h4, h5⟩ := h a w L hr T
  unfold Oper.wp
  rw [h1]
  exact ⟨v, rfl, h2, h3, h4, h5⟩
theorem shown_skip (hg : o.guard = none) (h : ∀ a w L, R w0 w → ToldG ops a0 R G F nd I L i o a w → ∃ w', (execOp a.eval o).run P w = .ok .skip w' ∧ Post ops R G F nd fin I L a i o w undef w') : ShownG P ops a0 w0 R G F nd fin I Q i o := by
  intro a w L hr T
  rw [if_pos (wanted_none hg _)]
  obtain ⟨w', h1, h2, h3, h4, h5⟩ := h a w L hr T
  unfold Oper.wp
  rw [h1]
  exact ⟨undef, rfl, h2, h3, h4, h5⟩
theorem shown_call (hg : o.guard = none) (f : FuncId) (h : ∀ a w L, R w0 w → ToldG ops a0 R G F nd I L i o a w → ∃ args, (execOp a.eval o).run P w = .ok (.enter f args) w ∧ Calls P f args w fun e w' => ∃ v, e = .returned v ∧ Post ops R G F nd fin I L a i o w v w') : ShownG P ops a0 w0 R G F nd fin I Q i o := by
  intro a w L hr T
  rw [if_pos (wanted_none hg _)]
  obtain ⟨args, h1, h2⟩ := h a w L hr T
  unfold Oper.wp
  rw [h1]
  refine h2.mono fun e w' hh => ?_
  obtain ⟨v, rfl, h2, h3, h4, h5⟩ := hh
  exact ⟨v, rfl, h2, h3, h4, h5⟩
/-- A temporary that holds a truth is yielded. -/
theorem yielded_of {tmps : Array Value} {g d : Nat} {b : Bool} (h2 : ((ops[g]?).bind (·.dst)) = some d) (h : tmps.getD d undef = .bool b) : yielded ops tmps g = some b := by
  unfold yielded
  rw [h2]
  simp only [Array.getD_eq_getD_getElem?] at h
  cases hd : tmps[d]? with
  | none => rw [hd] at h; simp [undef] at h
  | some v =>
    rw [hd] at h
    simp only [Option.getD_some] at h
    subst h
    simp [hd]
theorem wanted_if {g d : Nat} {b c : Bool} (hg : o.guard = some (g, b)) (T : ToldG ops a0 R G F nd I L i o a w) (h1 : (o.after.any fun e => Region.binds .any e && e.on == g) = true) (hn : nd.contains (i, g) = true) (h2 : ((ops[g]?).bind (·.dst)) = some d) (hF : ∀ v w, F g v w → v = .bool c) : Region.wanted o (yielded ops a.tmps) = (c == b) := by
  have h := hF _ _ (T.at_ g d h1 hn h2)
  have hy := yielded_of (ops := ops) (tmps := a.tmps) h2 h
  simp only [Region.wanted, hg, hy]
  cases b <;> cases c <;> rfl
/-- Guarded, the guard met. -/
theorem shown_val_if (g d : Nat) (b : Bool) (hg : o.guard = some (g, b)) (h1 : (o.after.any fun e => Region.binds .any e && e.on == g) = true) (hn : nd.contains (i, g) = true) (h2 : ((ops[g]?).bind (·.dst)) = some d) (hF : ∀ v w, F g v w → v = .bool b)
    (h : ∀ a w L, R w0 w → ToldG ops a0 R G F nd I L i o a w → ∃ v w', (execOp a.eval o).run P w = .ok (.value v) w' ∧ Post ops R G F nd fin I L a i o w v w') : ShownG P ops a0 w0 R G F nd fin I Q i o := by
  intro a w L hr T
  rw [if_pos (by rw [wanted_if hg T h1 hn h2 hF]; simp)]
  obtain ⟨v, w', h1, h2, h3, h4, h5⟩ := h a w L hr T
  unfold Oper.wp
  rw [h1]
  exact ⟨v, rfl, h2, h3, h4, h5⟩
theorem shown_call_if (g d : Nat) (b : Bool) (hg : o.guard = some (g, b)) (h1 : (o.after.any fun e => Region.binds .any e && e.on == g) = true) (hn : nd.contains (i, g) = true) (h2 : ((ops[g]?).bind (·.dst)) = some d) (hF : ∀ v w, F g v w → v = .bool b) (f : FuncId)
    (h : ∀ a w L, R w0 w → ToldG ops a0 R G F nd I L i o a w → ∃ args, (execOp a.eval o).run P w = .ok (.enter f args) w ∧ Calls P f args w fun e w' => ∃ v, e = .returned v ∧ Post ops R G F nd fin I L a i o w v w') : ShownG P ops a0 w0 R G F nd fin I Q i o := by
  intro a w L hr T
  rw [if_pos (by rw [wanted_if hg T h1 hn h2 hF]; simp)]
  obtain ⟨args, h1, h2⟩ := h a w L hr T
  unfold Oper.wp
  rw [h1]
  refine h2.mono fun e w' hh => ?_
  obtain ⟨v, rfl, h2, h3, h4, h5⟩ := hh
  exact ⟨v, rfl, h2, h3, h4, h5⟩
/-- Guarded, the guard not met. -/
theorem shown_not (g d : Nat) (b : Bool) (hg : o.guard = some (g, b)) (h1 : (o.after.any fun e => Region.binds .any e && e.on == g) = true) (hn : nd.contains (i, g) = true) (h2 : ((ops[g]?).bind (·.dst)) = some d) (hF : ∀ v w, F g v w → v = .bool (!b)) (h : ∀ w, F i undef w) (hI : ∀ a w L, ToldG ops a0 R G F nd I L i o a w → I (upd L i) (a.put o.dst undef) w) : ShownG P ops a0 w0 R G F nd fin I Q i o := by
  intro a w L hr T
  rw [if_neg (by rw [wanted_if hg T h1 hn h2 hF]; cases b <;> simp)]
  exact ⟨h w, hI a w L T⟩
/-- What another operation left, handed on. -/
theorem shown_move (x : Operand) (hg : o.guard = none) (hop : o.op = .move x ∨ o.op = .assign x) (hR : Goes R) (h : ∀ a w L, R w0 w → ToldG ops a0 R G F nd I L i o a w → F i (a.eval x) w) (hI : ∀ a w L, ToldG ops a0 R G F nd I L i o a w → I (upd L i) (a.put o.dst (a.eval x)) w) : ShownG P ops a0 w0 R G F nd fin I Q i o :=
  shown_val hg fun a w L hr T => ⟨a.eval x, w, by rcases hop with h | h <;> simp [execOp, h], Post.pure hR (h a w L hr T) (hI a w L T)⟩
theorem yielded_undef {tmps : Array Value} {g d : Nat} (h2 : ((ops[g]?).bind (·.dst)) = some d) (h : tmps.getD d undef = undef) : yielded ops tmps g = none := by
  unfold yielded
  rw [h2]
  simp only [Array.getD_eq_getD_getElem?] at h
  cases hd : tmps[d]? with
  | none => simp [hd]
  | some v =>
    rw [hd] at h
    simp only [Option.getD_some] at h
    subst h
    simp [hd, undef]
/-- Guarded by what was not carried out. -/
theorem shown_undef (g d : Nat) (b : Bool) (hg : o.guard = some (g, b)) (h1 : (o.after.any fun e => Region.binds .any e && e.on == g) = true) (hn : nd.contains (i, g) = true) (h2 : ((ops[g]?).bind (·.dst)) = some d) (hF : ∀ v w, F g v w → v = undef) (h : ∀ w, F i undef w) (hI : ∀ a w L, ToldG ops a0 R G F nd I L i o a w → I (upd L i) (a.put o.dst undef) w) : ShownG P ops a0 w0 R G F nd fin I Q i o := by
  intro a w L hr T
  have hy := yielded_undef (ops := ops) (tmps := a.tmps) h2 (hF _ _ (T.at_ g d h1 hn h2))
  rw [if_neg (by simp [Region.wanted, hg, hy])]
  exact ⟨h w, hI a w L T⟩
end
end Go.Proofs.Ytmldelgbmadegaa.PI

/- Rows of one's own that lie in temporaries of a region: no two of them are one block. Over any program. ds: which operations leave one, and where; ex: pairs of which the one takes the other's. -/
namespace Go.Proofs.Ytmldelgbmadegaa.PI
open Go.RowKit
set_option linter.unusedVariables false

def RI (ds : List (Nat × Nat)) (ex : List (Nat × Nat)) (L : Nat → Bool) (a : Act) (w : World) : Prop :=
  (∀ p ∈ ds, p.2 < a.tmps.size) ∧
  (∀ p ∈ ds, L p.1 = true → ∀ b, (a.tmps.getD p.2 undef).ownBlock = some b → b < w.heap.size) ∧
  (∀ p ∈ ds, ∀ q ∈ ds, p.1 ≠ q.1 → ex.contains (p.1, q.1) = false → L p.1 = true → L q.1 = true → ∀ b, (a.tmps.getD p.2 undef).ownBlock = some b → (a.tmps.getD q.2 undef).ownBlock ≠ some b)
variable {ds ex : List (Nat × Nat)} {L : Nat → Bool} {a : Act} {w w' : World} {i d : Nat} {v : Value}
theorem RI.start {n : Nat} (h : (ds.all fun p => decide (p.2 < n)) = true) (ha : a.tmps.size = n) : RI ds ex (fun _ => false) a w := by
  rw [List.all_eq_true] at h
  exact ⟨fun p hp => by rw [ha]; exact of_decide_eq_true (h p hp), (fun p hp hl => by cases hl), (fun p hp q hq _ _ hl => by cases hl)⟩
theorem getD_else (dst : Option Nat) (t : Nat) (h : dst ≠ some t) : (a.put dst v).tmps.getD t undef = a.tmps.getD t undef := by
  cases dst with
  | none => rfl
  | some d => rw [put_getD, if_neg (fun hh => h (by rw [hh.1]))]
/-- An operation that leaves no such row. -/
theorem RI.pure (h : RI ds ex L a w) (dst : Option Nat) (h1 : (ds.all fun p => p.1 != i && dst != some p.2) = true) (hs : w.heap.size ≤ w'.heap.size) : RI ds ex (upd L i) (a.put dst v) w' := by
  rw [List.all_eq_true] at h1
  have hn : ∀ p ∈ ds, p.1 ≠ i ∧ dst ≠ some p.2 := fun p hp => by have := h1 p hp; simp only [Bool.and_eq_true, bne_iff_ne] at this; exact this
  have hL : ∀ p ∈ ds, upd L i p.1 = L p.1 := fun p hp => by unfold upd; rw [if_neg (hn p hp).1]
  refine ⟨fun p hp => by rw [put_size]; exact h.1 p hp, fun p hp hl b hb => ?_, fun p hp q hq hpq hx hl hm b hb => ?_⟩
  · rw [hL p hp] at hl
    rw [getD_else _ _ (hn p hp).2] at hb
    exact Nat.lt_of_lt_of_le (h.2.1 p hp hl b hb) hs
  · rw [hL p hp] at hl
    rw [hL q hq] at hm
    rw [getD_else _ _ (hn p hp).2] at hb
    rw [getD_else _ _ (hn q hq).2]
    exact h.2.2 p hp q hq hpq hx hl hm b hb
/-- An operation that leaves a row: a new one, or that of j, which it takes. -/
theorem RI.row (h : RI ds ex L a w) (hi : (ds.all fun p => (p.1 == i) == (p.2 == d)) = true) (hd : ds.contains (i, d) = true) (js : List (Nat × Nat)) (hj : (js.all fun j => ds.contains j && (j.1 != i) && ds.all fun q => (q.1 == i) || (q.1 == j.1) || (!ex.contains (i, q.1) && !ex.contains (q.1, i) && !ex.contains (j.1, q.1) && !ex.contains (q.1, j.1)) || ex.contains (i, q.1) && ex.contains (q.1, i)) = true)
    (hex : (js.all fun j => ex.contains (i, j.1) && ex.contains (j.1, i)) = true) (hjl : ∀ j ∈ js, L j.1 = true) (hs : w.heap.size ≤ w'.heap.size)
    (hv : ∀ b, v.ownBlock = some b → b < w'.heap.size ∧ (w.heap.size ≤ b ∨ ∃ j ∈ js, (a.tmps.getD j.2 undef).ownBlock = some b)) : RI ds ex (upd L i) (a.put (some d) v) w' := by
  rw [List.all_eq_true] at hi hj hex
  have hid : ∀ p ∈ ds, (p.1 = i ↔ p.2 = d) := fun p hp => by
    have h1 := hi p hp
    have h2 : (p.1 == i) = (p.2 == d) := by simpa using h1
    exact ⟨fun e => by rw [e] at h2; simpa using h2.symm, fun e => by rw [e] at h2; simpa using h2⟩
  have hds : (i, d) ∈ ds := by simpa using hd
  have hdl : d < a.tmps.size := h.1 (i, d) hds
  have hself : (a.put (some d) v).tmps.getD d undef = v := by rw [put_getD, if_pos ⟨rfl, hdl⟩]
  have helse : ∀ p ∈ ds, p.1 ≠ i → (a.put (some d) v).tmps.getD p.2 undef = a.tmps.getD p.2 undef := fun p hp hne => getD_else _ _ (fun e => by injection e with e; exact hne ((hid p hp).2 e.symm))
  have hL : ∀ p : Nat × Nat, p.1 ≠ i → upd L i p.1 = L p.1 := fun p hne => by unfold upd; rw [if_neg hne]
  have key : ∀ q ∈ ds, q.1 ≠ i → (ex.contains (i, q.1) = false ∨ ex.contains (q.1, i) = false) → L q.1 = true → ∀ b, v.ownBlock = some b → (a.tmps.getD q.2 undef).ownBlock ≠ some b := fun q hq hqi hx hlq b hb hqb => by
    rcases (hv b hb).2 with h1 | ⟨j, hjm, hjb⟩
    · have := h.2.1 q hq hlq b hqb
      omega
    · have h1 := hj j hjm
      have h4 := hex j hjm
      simp only [Bool.and_eq_true, bne_iff_ne] at h1 h4
      obtain ⟨⟨h2, h3⟩, h5⟩ := h1
      rw [List.all_eq_true] at h5
      have h6 := h5 q hq
      by_cases hqj : q.1 = j.1
      · rw [hqj, h4.1, h4.2] at hx
        rcases hx with hx | hx <;> cases hx
      · simp only [Bool.or_eq_true, beq_iff_eq, Bool.and_eq_true, Bool.not_eq_true'] at h6
        rcases h6 with ((h6 | h6) | h6) | h6
        · exact hqi h6
        · exact hqj h6
        · exact h.2.2 j (by simpa using h2) q hq (fun e => hqj e.symm) h6.1.2 (hjl j hjm) hlq b hjb hqb
        · rw [h6.1, h6.2] at hx
          rcases hx with hx | hx <;> cases hx
  refine ⟨fun p hp => by rw [put_size]; exact h.1 p hp, fun p hp hl b hb => ?_, fun p hp q hq hpq hx hl hm b hb => ?_⟩
  · by_cases hpi : p.1 = i
    · rw [(hid p hp).1 hpi, hself] at hb
      exact (hv b hb).1
    · rw [hL p hpi] at hl
      rw [helse p hp hpi] at hb
      exact Nat.lt_of_lt_of_le (h.2.1 p hp hl b hb) hs
  · by_cases hpi : p.1 = i
    · have hqi : q.1 ≠ i := fun e => hpq (by rw [hpi, e])
      rw [(hid p hp).1 hpi, hself] at hb
      rw [hL q hqi] at hm
      rw [helse q hq hqi]
      rw [hpi] at hx
      exact key q hq hqi (.inl hx) hm b hb
    · rw [hL p hpi] at hl
      rw [helse p hp hpi] at hb
      by_cases hqi : q.1 = i
      · rw [(hid q hq).1 hqi, hself]
        intro hvb
        rw [hqi] at hx
        exact key p hp hpi (.inr hx) hl b hvb hb
      · rw [hL q hqi] at hm
        rw [helse q hq hqi]
        exact h.2.2 p hp q hq hpq hx hl hm b hb
end Go.Proofs.Ytmldelgbmadegaa.PI
