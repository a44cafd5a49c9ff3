/- A device by what it says: what its calls answer and leave. -/
import Derived.Test.YtbdiamhhlabojaaDoorUh
namespace Go.Proofs.YtbdiamhhlabojaaDoor
open Go.RowKit
set_option linter.unusedVariables false
set_option linter.unusedSimpArgs false
set_option maxRecDepth 100000

abbrev Lg := ByteArray × List UInt8 × Int
structure Dg where
  room : Int
  us : Int
  L : List Lg
  fu : Bool
  lf : Int
def DvL (w : World) (base D : Nat) (g : Dg) (S : Nat → Prop) : Prop := ∃ d : Dv, DvAt w base d ∧ d.D = D ∧ d.room = g.room ∧ d.us = g.us ∧ d.fu = g.fu ∧ d.lf = g.lf ∧ d.fs.map Lf.lg = g.L ∧ S = d.has
def Dg.dead (g : Dg) : Bool := g.fu && decide (g.lf = 0)
def Dg.burnt (g : Dg) : Dg := { g with lf := if g.fu = true then g.lf - 1 else g.lf }
def SortG (L : List Lg) : Prop := L.Pairwise fun a b => cmpT a.1 b.1 < 0
def posG (L : List Lg) (nm : ByteArray) : Nat := L.countP fun x => decide (cmpT x.1 nm < 0)
def hitG (L : List Lg) (nm : ByteArray) : Bool := (L[posG L nm]?).any fun x => decide (cmpT x.1 nm = 0)
/-- Numbers such as there are. -/
structure Dg.ok (g : Dg) : Prop where
  us : 0 ≤ g.us ∧ g.us ≤ 4611686018427387904
  room : 0 ≤ g.room ∧ g.room ≤ 9223372036854775807
  lf : -9223372036854775807 ≤ g.lf ∧ g.lf ≤ 9223372036854775807
  srt : SortG g.L
  few : g.L.length ≤ 1000000
  big : ∀ x ∈ g.L, x.2.1.length ≤ 2147483648
def LeftL (base D : Nat) (g : Dg) (S : Nat → Prop) (v : Value) (w : World) (e : Ending) (w' : World) : Prop := e = .returned v ∧ ∃ S', DvL w' base D g S' ∧ Kept w w' S S'
theorem sortG_of {l : List Lf} (h : SortG (l.map Lf.lg)) : SortF l := List.pairwise_map.1 h
theorem posG_of (l : List Lf) (nm : ByteArray) : posG (l.map Lf.lg) nm = posF l nm := by
  unfold posG posF
  rw [List.countP_map]; rfl
theorem hitG_of (l : List Lf) (nm : ByteArray) : hitG (l.map Lf.lg) nm = hitF l nm := by
  unfold hitG hitF
  rw [posG_of, List.getElem?_map]
  cases l[posF l nm]? <;> rfl
section
variable {w w' : World} {base D : Nat} {g : Dg} {S : Nat → Prop}
theorem DvL.below (h : DvL w base D g S) (hb : Below w.heap.size w w') : DvL w' base D g S := by
  obtain ⟨d, h1, h2⟩ := h
  exact ⟨d, h1.below hb, h2⟩
theorem DvL.ge (h : DvL w base D g S) : ∀ k, S k → base ≤ k := by
  obtain ⟨d, h1, _, _, _, _, _, _, rfl⟩ := h
  exact h1.ge
theorem DvL.lt (h : DvL w base D g S) : ∀ k, S k → k < w.heap.size := by
  obtain ⟨d, h1, _, _, _, _, _, _, rfl⟩ := h
  exact h1.lt
theorem DvL.dok (h : DvL w base D g S) : base ≤ D ∧ D < w.heap.size := by
  obtain ⟨d, h1, rfl, _⟩ := h
  exact ⟨h1.lo, h1.ltD⟩
end
def Dg.new (room : Int) : Dg := ⟨room, 0, [], false, 0⟩
theorem newL (room r : Int) (w : World) (hr : r = max room 0) (hb : -9223372036854775808 ≤ room ∧ room ≤ 9223372036854775807) :
    Calls Tryd.prog 10 #[.int .i64 room] w fun e w' => e = .returned (.pointer (some ⟨w.heap.size, 0, none⟩)) ∧ (∃ S, DvL w' w.heap.size w.heap.size (Dg.new r) S) ∧ Below w.heap.size w w' :=
  (newdev_any room r w hr hb).mono fun e w' h => ⟨h.1, ⟨_, _, h.2.1, rfl, rfl, rfl, rfl, rfl, rfl, rfl⟩, h.2.2.1⟩
theorem usedL (base D : Nat) (g : Dg) (S : Nat → Prop) (w : World) (h : DvL w base D g S) : Calls Tryd.prog 51 #[.pointer (some ⟨D, 0, none⟩)] w fun e w' => e = .returned (.int .i64 g.us) ∧ w' = w := by
  obtain ⟨d, h1, rfl, _, hu, _⟩ := h
  have := used_any base d w h1
  rwa [hu] at this
def Dg.fused (g : Dg) (n : Int) : Dg := { g with fu := decide (0 ≤ n), lf := n }
theorem fuseL (base D : Nat) (g : Dg) (S : Nat → Prop) (n : Int) (w : World) (h : DvL w base D g S) : Calls Tryd.prog 12 #[.pointer (some ⟨D, 0, none⟩), .int .i64 n] w (LeftL base D (g.fused n) S (.tuple #[]) w) := by
  obtain ⟨d, h1, rfl, e1, e2, e3, e4, e5, rfl⟩ := h
  exact (fuse_any base d n w h1).mono fun e w' h => ⟨h.1, _, ⟨_, h.2.1, rfl, e1, e2, rfl, rfl, e5, rfl⟩, h.2.2⟩
theorem dead_of {d : Dv} {g : Dg} (e3 : d.fu = g.fu) (e4 : d.lf = g.lf) : d.dead = g.dead := by unfold Dv.dead Dg.dead; rw [e3, e4]
theorem sync_deadL (base D : Nat) (g : Dg) (S : Nat → Prop) (nm : ByteArray) (w : World) (h : DvL w base D g S) (hd : g.dead = true) : Calls Tryd.prog 40 #[.pointer (some ⟨D, 0, none⟩), .string nm] w (LeftL base D g S (.int .i64 5) w) := by
  obtain ⟨d, h1, rfl, e1, e2, e3, e4, e5, rfl⟩ := h
  exact (sync_dead base d nm w h1 (by rw [dead_of e3 e4]; exact hd)).mono fun e w' h => ⟨h.1, _, ⟨_, h.2.1, rfl, e1, e2, e3, e4, e5, rfl⟩, h.2.2⟩
theorem sync_noneL (base D : Nat) (g : Dg) (S : Nat → Prop) (nm : ByteArray) (w : World) (h : DvL w base D g S) (hk : g.ok) (hd : g.dead = false) (hh : hitG g.L nm = false) : Calls Tryd.prog 40 #[.pointer (some ⟨D, 0, none⟩), .string nm] w (LeftL base D g S (.int .i64 4) w) := by
  obtain ⟨d, h1, rfl, e1, e2, e3, e4, e5, rfl⟩ := h
  have hs := hk.srt
  have hf := hk.few
  rw [← e5] at hs hh hf
  rw [hitG_of] at hh
  rw [List.length_map] at hf
  exact (sync_none base d nm w h1 (by rw [dead_of e3 e4]; exact hd) (sortG_of hs) hf hh).mono fun e w' h => ⟨h.1, _, ⟨_, h.2.1, rfl, e1, e2, e3, e4, e5, rfl⟩, h.2.2⟩
theorem at_of {l : List Lf} {i : Nat} {x : Lg} (h : (l.map Lf.lg)[i]? = some x) : ∃ f, l[i]? = some f ∧ f.nm = x.1 ∧ f.da = x.2.1 ∧ f.su = x.2.2 := by
  rw [List.getElem?_map] at h
  cases hf : l[i]? with
  | none => rw [hf] at h; cases h
  | some f => rw [hf] at h; injection h with h; subst h; exact ⟨f, rfl, rfl, rfl, rfl⟩
theorem burnt_of {d : Dv} {g : Dg} (e1 : d.room = g.room) (e2 : d.us = g.us) (e3 : d.fu = g.fu) (e4 : d.lf = g.lf) (e5 : d.fs.map Lf.lg = g.L) : d.burnt.D = d.D ∧ d.burnt.room = g.burnt.room ∧ d.burnt.us = g.burnt.us ∧ d.burnt.fu = g.burnt.fu ∧ d.burnt.lf = g.burnt.lf ∧ d.burnt.fs.map Lf.lg = g.burnt.L := by
  obtain ⟨b1, b2, b3, b4, b5, b6⟩ := burnt_all d
  rw [b1, b2, b3, b4, b5, b6, e1, e2, e3, e4, e5]
  exact ⟨rfl, rfl, rfl, rfl, rfl, rfl⟩
def Dg.synced (g : Dg) (i : Nat) (x : Lg) : Dg := { g with L := g.L.set i (x.1, x.2.1, (x.2.1.length : Int)) }
theorem sync_hitL (base D : Nat) (g : Dg) (S : Nat → Prop) (nm : ByteArray) (i : Nat) (x : Lg) (w : World) (h : DvL w base D g S) (hk : g.ok) (hd : g.dead = false) (hh : hitG g.L nm = true) (hi : posG g.L nm = i) (hx : g.L[i]? = some x) : Calls Tryd.prog 40 #[.pointer (some ⟨D, 0, none⟩), .string nm] w (LeftL base D (g.synced i x).burnt S (.int .i64 0) w) := by
  obtain ⟨d, h1, rfl, e1, e2, e3, e4, e5, rfl⟩ := h
  have hs := hk.srt
  have hf := hk.few
  rw [← e5] at hs hh hf hi hx
  rw [hitG_of] at hh
  rw [posG_of] at hi
  rw [List.length_map] at hf
  obtain ⟨f, hfi, f1, f2, f3⟩ := at_of hx
  obtain ⟨b1, b2, b3, b4, b5, b6⟩ := burnt_of (d := d.synced i f) (g := g.synced i x) e1 e2 e3 e4 (by
    unfold Dv.synced Dg.synced
    rw [← e5, ← f1, ← f2, List.map_set]; rfl)
  exact (sync_hit base d nm i f w h1 (by rw [dead_of e3 e4]; exact hd) (sortG_of hs) hf hh hi.symm hfi (by rw [e4]; exact hk.lf)).mono fun e w' h => ⟨h.1, _, ⟨_, h.2.1, b1, b2, b3, b4, b5, b6, rfl⟩, h.2.2⟩
theorem append_deadL (base D : Nat) (g : Dg) (S : Nat → Prop) (nm : ByteArray) (bA : Option Addr) (m bc : Nat) (w : World) (h : DvL w base D g S) (hd : g.dead = true) : Calls Tryd.prog 27 #[.pointer (some ⟨D, 0, none⟩), .string nm, .slice bA m bc] w (LeftL base D g S (.int .i64 5) w) := by
  obtain ⟨d, h1, rfl, e1, e2, e3, e4, e5, rfl⟩ := h
  exact (append_dead base d nm bA m bc w h1 (by rw [dead_of e3 e4]; exact hd)).mono fun e w' h => ⟨h.1, _, ⟨_, h.2.1, rfl, e1, e2, e3, e4, e5, rfl⟩, h.2.2⟩
theorem append_fullL (base D : Nat) (g : Dg) (S : Nat → Prop) (nm : ByteArray) (bA : Option Addr) (m bc : Nat) (w : World) (h : DvL w base D g S) (hk : g.ok) (hd : g.dead = false) (hnm : (nm.toList == ([] : List UInt8)) = false) (hf : g.room - g.us < (m : Int)) : Calls Tryd.prog 27 #[.pointer (some ⟨D, 0, none⟩), .string nm, .slice bA m bc] w (LeftL base D g S (.int .i64 3) w) := by
  obtain ⟨d, h1, rfl, e1, e2, e3, e4, e5, rfl⟩ := h
  have k1 := hk.us
  have k2 := hk.room
  exact (append_full base d nm bA m bc w h1 (by rw [dead_of e3 e4]; exact hd) hnm (by rw [e1, e2]; exact hf) (by rw [e1, e2]; omega)).mono fun e w' h => ⟨h.1, _, ⟨_, h.2.1, rfl, e1, e2, e3, e4, e5, rfl⟩, h.2.2⟩
def putL (L : List Lg) (nm : ByteArray) (b : List UInt8) : List Lg :=
  match hitG L nm, L[posG L nm]? with
  | true, some x => L.set (posG L nm) (x.1, x.2.1 ++ b, x.2.2)
  | _, _ => L.take (posG L nm) ++ (nm, b, 0) :: L.drop (posG L nm)
def Dg.put (g : Dg) (nm : ByteArray) (b : List UInt8) : Dg := { g with us := g.us + b.length, L := putL g.L nm b }
theorem appendL (base D : Nat) (g : Dg) (S : Nat → Prop) (nm : ByteArray) (bA : Option Addr) (b : List UInt8) (m bc B : Nat) (w : World) (h : DvL w base D g S) (hk : g.ok) (hd : g.dead = false) (hnm : (nm.toList == ([] : List UInt8)) = false) (hf : (m : Int) ≤ g.room - g.us)
    (hm : m = b.length) (hbr : Rd w B bA (b.map B8)) (hB : B ≤ w.heap.size) (hbA : b ≠ [] → ∀ a, bA = some a → ¬ S a.block) (hbig : b.length ≤ 2147483647) : Calls Tryd.prog 27 #[.pointer (some ⟨D, 0, none⟩), .string nm, .slice bA m bc] w (LeftL base D (g.put nm b).burnt S (.int .i64 0) w) := by
  obtain ⟨d, h1, rfl, e1, e2, e3, e4, e5, rfl⟩ := h
  have k1 := hk.us
  have k2 := hk.room
  have k3 := hk.lf
  have hs := hk.srt
  have hfw := hk.few
  have hfin : ∀ (L' : List Lg) e w', Put base d m L' w e w' → L' = putL g.L nm b → LeftL base d.D (g.put nm b).burnt d.has (.int .i64 0) w e w' := fun L' e w' hp hL => by
    obtain ⟨d', ⟨p0, p1, p2⟩, q1, q2, q3, q4, q5, q6⟩ := hp
    refine ⟨p0, _, ⟨d', p1, q1, q2.trans e1, ?_, q4.trans e3, ?_, ?_, rfl⟩, p2⟩
    · rw [q3, e2, hm]; rfl
    · rw [q5, e3, e4]; rfl
    · rw [q6, hL]; rfl
  rw [← e5] at hs hfw
  rw [List.length_map] at hfw
  cases hh : hitG g.L nm
  · have hh2 := hh
    rw [← e5, hitG_of] at hh2
    refine (append_new base d nm (posF d.fs nm) bA b m bc B w h1 (by rw [dead_of e3 e4]; exact hd) hnm (by rw [e1, e2]; exact hf) (by rw [e1, e2]; omega) (sortG_of hs) hfw hh2 rfl (by rw [e4]; exact k3) hm hbr hB hbA (by omega)).mono fun e w' hp => hfin _ e w' hp ?_
    unfold putL
    rw [hh, ← e5, posG_of]
  · have hh2 := hh
    rw [← e5, hitG_of] at hh2
    obtain ⟨f, hfi⟩ : ∃ f, d.fs[posF d.fs nm]? = some f := by
      unfold hitF at hh2
      cases hx : d.fs[posF d.fs nm]? with
      | none => rw [hx] at hh2; cases hh2
      | some f => exact ⟨f, rfl⟩
    have hlg : g.L[posG g.L nm]? = some f.lg := by rw [← e5, posG_of, List.getElem?_map, hfi]; rfl
    have hb := hk.big f.lg (List.mem_of_getElem? hlg)
    refine (append_hit base d nm (posF d.fs nm) f bA b m bc B w h1 (by rw [dead_of e3 e4]; exact hd) hnm (by rw [e1, e2]; exact hf) (by rw [e1, e2]; omega) (sortG_of hs) hfw hh2 rfl hfi (by rw [e4]; exact k3) hm hbr hB hbA (by have : f.da.length ≤ 2147483648 := hb; omega)).mono fun e w' hp => hfin _ e w' hp ?_
    unfold putL
    rw [hh, hlg, ← e5, posG_of]
    rfl
theorem read_noneL (base D : Nat) (g : Dg) (S : Nat → Prop) (nm : ByteArray) (w : World) (h : DvL w base D g S) (hk : g.ok) (hh : hitG g.L nm = false) : Calls Tryd.prog 20 #[.pointer (some ⟨D, 0, none⟩), .string nm] w fun e w' => e = .returned (.tuple #[.slice none 0 0, .bool false]) ∧ Below w.heap.size w w' := by
  obtain ⟨d, h1, rfl, e1, e2, e3, e4, e5, rfl⟩ := h
  have hs := hk.srt
  have hf := hk.few
  rw [← e5] at hs hh hf
  rw [hitG_of] at hh
  rw [List.length_map] at hf
  exact read_none base d nm w h1 (sortG_of hs) hf hh
theorem read_hitL (base D : Nat) (g : Dg) (S : Nat → Prop) (nm : ByteArray) (i : Nat) (x : Lg) (w : World) (h : DvL w base D g S) (hk : g.ok) (hh : hitG g.L nm = true) (hi : posG g.L nm = i) (hx : g.L[i]? = some x) : Calls Tryd.prog 20 #[.pointer (some ⟨D, 0, none⟩), .string nm] w (ReadOf x.2.1 w) := by
  obtain ⟨d, h1, rfl, e1, e2, e3, e4, e5, rfl⟩ := h
  have hs := hk.srt
  have hf := hk.few
  have hb := hk.big x (List.mem_of_getElem? hx)
  rw [← e5] at hs hh hf hi hx
  rw [hitG_of] at hh
  rw [posG_of] at hi
  rw [List.length_map] at hf
  obtain ⟨f, hfi, f1, f2, f3⟩ := at_of hx
  rw [← f2] at hb ⊢
  exact read_hit base d nm i f w h1 (sortG_of hs) hf hh hi.symm hfi (by omega)
end Go.Proofs.YtbdiamhhlabojaaDoor
