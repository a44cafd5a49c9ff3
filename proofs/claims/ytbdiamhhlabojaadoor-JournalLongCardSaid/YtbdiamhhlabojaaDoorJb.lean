/- A device by its names: no fuse. -/
import Derived.Test.YtbdiamhhlabojaaDoorLk
import Derived.Test.YtbdiamhhlabojaaDoorUm
namespace Go.Proofs.YtbdiamhhlabojaaDoor
open Go.RowKit
set_option linter.unusedVariables false
set_option linter.unusedSimpArgs false
set_option maxRecDepth 100000

abbrev Mp := ByteArray → Option (List UInt8 × Int)
def upM (m : Mp) (nm : ByteArray) (v : Option (List UInt8 × Int)) : Mp := fun k => if nm = k then v else m k
/-- Bytes more. -/
def addM (o : Option (List UInt8 × Int)) (b : List UInt8) : List UInt8 × Int := match o with | none => (b, 0) | some v => (v.1 ++ b, v.2)
/-- A device without a fuse has these files. -/
structure NmG (g : Dg) (m : Mp) (n : Nat) : Prop where
  srt : SortG g.L
  at_ : ∀ k, lkG g.L k = m k
  us : g.us = sumL g.L
  fu : g.fu = false
  lf : -9223372036854775807 ≤ g.lf ∧ g.lf ≤ 9223372036854775807
  room : 0 ≤ g.room ∧ g.room ≤ 2147483647
  fit : g.us ≤ g.room
  len : g.L.length ≤ n
theorem mem_sum {L : List Lg} {x : Lg} (h : x ∈ L) : (x.2.1.length : Int) ≤ sumL L := by
  induction L with
  | nil => cases h
  | cons a r ih =>
    rw [sumL_cons]
    rcases List.mem_cons.1 h with rfl | h
    · have := sumL_nn r; omega
    · have := ih h; omega
section
variable {g : Dg} {m : Mp} {n : Nat} (h : NmG g m n)
include h
theorem NmG.ok (hn : n ≤ 1000000) : g.ok :=
  ⟨⟨by rw [h.us]; exact sumL_nn _, by have := h.fit; have := h.room; omega⟩, ⟨h.room.1, by have := h.room; omega⟩, h.lf, h.srt, by have := h.len; omega, fun x hx => by
    have h1 := mem_sum hx
    have h2 := h.us
    have h3 := h.fit
    have h4 := h.room
    omega⟩
theorem NmG.live : g.dead = false := by unfold Dg.dead; rw [h.fu]; rfl
theorem NmG.burnt : g.burnt = g := by unfold Dg.burnt; rw [if_neg (by rw [h.fu]; decide)]
theorem NmG.big {nm : ByteArray} {v : List UInt8 × Int} (hv : m nm = some v) : (v.1.length : Int) ≤ g.us := by
  have h1 := lk_at h.srt ((h.at_ nm).trans hv)
  rw [h.us]
  exact mem_sum (List.mem_of_getElem? h1)
theorem NmG.put (nm : ByteArray) (b : List UInt8) (hf : g.us + b.length ≤ g.room) : NmG (g.put nm b) (upM m nm (some (addM (m nm) b))) (n + 1) := by
  obtain ⟨q1, q2, q3, q4⟩ := lk_put h.srt nm b
  refine ⟨q1, fun k => ?_, ?_, h.fu, h.lf, h.room, hf, Nat.le_trans q4 (Nat.succ_le_succ h.len)⟩
  · show lkG (putL g.L nm b) k = _
    rw [q2, h.at_ nm, h.at_ k]
    rfl
  · show g.us + b.length = sumL (putL g.L nm b)
    rw [q3, h.us]
theorem NmG.sync {nm : ByteArray} {v : List UInt8 × Int} (hv : m nm = some v) : NmG (g.synced (posG g.L nm) (nm, v.1, v.2)) (upM m nm (some (v.1, (v.1.length : Int)))) n := by
  have hv2 := (h.at_ nm).trans hv
  obtain ⟨q1, q2, q3, q4⟩ := lk_set h.srt (u := (v.1, (v.1.length : Int))) hv2
  refine ⟨q1, fun k => ?_, ?_, h.fu, h.lf, h.room, h.fit, by show (List.set _ _ _).length ≤ n; rw [List.length_set]; exact h.len⟩
  · show lkG (g.L.set (posG g.L nm) (nm, v.1, (v.1.length : Int))) k = _
    rw [q2, h.at_ k]
    rfl
  · show g.us = sumL (g.L.set (posG g.L nm) (nm, v.1, (v.1.length : Int)))
    rw [q3, h.us]
    show _ = _ - (v.1.length : Int) + (v.1.length : Int)
    omega
theorem NmG.del {nm : ByteArray} {v : List UInt8 × Int} (hv : m nm = some v) : NmG (g.del (posG g.L nm) (nm, v.1, v.2)) (upM m nm none) n := by
  have hv2 := (h.at_ nm).trans hv
  obtain ⟨q1, q2, q3, q4⟩ := lk_del h.srt hv2
  have hb := h.big hv
  refine ⟨q1, fun k => ?_, ?_, h.fu, h.lf, h.room, ?_, ?_⟩
  · show lkG (g.L.eraseIdx (posG g.L nm)) k = _
    rw [q2, h.at_ k]
    rfl
  · show g.us - (v.1.length : Int) = sumL (g.L.eraseIdx (posG g.L nm))
    rw [q3, h.us]
  · show g.us - (v.1.length : Int) ≤ g.room
    have := h.fit
    omega
  · show (g.L.eraseIdx (posG g.L nm)).length ≤ n
    have := h.len
    omega
end
/-- The device lies there, and has these files. -/
def DvN (w : World) (base D : Nat) (m : Mp) (us room : Int) (n : Nat) (S : Nat → Prop) : Prop := ∃ g : Dg, DvL w base D g S ∧ NmG g m n ∧ g.us = us ∧ g.room = room
def LeftN (base D : Nat) (m : Mp) (us room : Int) (n : Nat) (S : Nat → Prop) (v : Value) (w : World) (e : Ending) (w' : World) : Prop := e = .returned v ∧ ∃ S', DvN w' base D m us room n S' ∧ Kept w w' S S'
section
variable {w w' : World} {base D : Nat} {m : Mp} {us room : Int} {n : Nat} {S : Nat → Prop}
theorem DvN.below (h : DvN w base D m us room n S) (hb : Below w.heap.size w w') : DvN w' base D m us room n S := by
  obtain ⟨g, h1, h2⟩ := h
  exact ⟨g, h1.below hb, h2⟩
theorem DvN.ge (h : DvN w base D m us room n S) : ∀ k, S k → base ≤ k := by obtain ⟨g, h1, _⟩ := h; exact h1.ge
theorem DvN.lt (h : DvN w base D m us room n S) : ∀ k, S k → k < w.heap.size := by obtain ⟨g, h1, _⟩ := h; exact h1.lt
theorem DvN.dok (h : DvN w base D m us room n S) : base ≤ D ∧ D < w.heap.size := by obtain ⟨g, h1, _⟩ := h; exact h1.dok
end
theorem newN (room : Int) (w : World) (hr : 0 ≤ room ∧ room ≤ 2147483647) :
    Calls Tryd.prog 10 #[.int .i64 room] w fun e w' => e = .returned (.pointer (some ⟨w.heap.size, 0, none⟩)) ∧ (∃ S, DvN w' w.heap.size w.heap.size (fun _ => none) 0 room 0 S) ∧ Below w.heap.size w w' :=
  (newL room room w (by omega) (by omega)).mono fun e w' hh => ⟨hh.1, hh.2.1.elim fun S h => ⟨S, Dg.new room, h, ⟨List.Pairwise.nil, fun _ => rfl, rfl, rfl, ⟨by show (_ : Int) ≤ 0; decide, by show (0 : Int) ≤ _; decide⟩, hr, hr.1, Nat.le_refl _⟩, rfl, rfl⟩, hh.2.2⟩
theorem appendN (base D : Nat) (m : Mp) (us room : Int) (n : Nat) (S : Nat → Prop) (nm : ByteArray) (bA : Option Addr) (b : List UInt8) (q bc B : Nat) (w : World) (h : DvN w base D m us room n S) (hn : n ≤ 1000000) (hnm : (nm.toList == ([] : List UInt8)) = false) (hf : us + (b.length : Int) ≤ room)
    (hq : q = b.length) (hbr : Rd w B bA (b.map B8)) (hB : B ≤ w.heap.size) (hbA : b ≠ [] → ∀ a, bA = some a → ¬ S a.block) (hbig : b.length ≤ 2147483647) :
    Calls Tryd.prog 27 #[.pointer (some ⟨D, 0, none⟩), .string nm, .slice bA q bc] w (LeftN base D (upM m nm (some (addM (m nm) b))) (us + b.length) room (n + 1) S (.int .i64 0) w) := by
  obtain ⟨g, h1, h2, rfl, rfl⟩ := h
  have h3 := h2.put nm b hf
  refine (appendL base D g S nm bA b q bc B w h1 (h2.ok hn) h2.live hnm (by omega) hq hbr hB hbA hbig).mono fun e w' hh => ?_
  rw [h3.burnt] at hh
  obtain ⟨he, S', hd, hk⟩ := hh
  exact ⟨he, S', ⟨_, hd, h3, rfl, rfl⟩, hk⟩
theorem syncN (base D : Nat) (m : Mp) (us room : Int) (n : Nat) (S : Nat → Prop) (nm : ByteArray) (v : List UInt8 × Int) (w : World) (h : DvN w base D m us room n S) (hn : n ≤ 1000000) (hv : m nm = some v) :
    Calls Tryd.prog 40 #[.pointer (some ⟨D, 0, none⟩), .string nm] w (LeftN base D (upM m nm (some (v.1, (v.1.length : Int)))) us room n S (.int .i64 0) w) := by
  obtain ⟨g, h1, h2, rfl, rfl⟩ := h
  have h3 := h2.sync hv
  have hv2 := (h2.at_ nm).trans hv
  refine (sync_hitL base D g S nm (posG g.L nm) (nm, v.1, v.2) w h1 (h2.ok hn) h2.live (by rw [lk_hit h2.srt, hv2]; rfl) rfl (lk_at h2.srt hv2)).mono fun e w' hh => ?_
  rw [h3.burnt] at hh
  obtain ⟨he, S', hd, hk⟩ := hh
  exact ⟨he, S', ⟨_, hd, h3, rfl, rfl⟩, hk⟩
theorem readN (base D : Nat) (m : Mp) (us room : Int) (n : Nat) (S : Nat → Prop) (nm : ByteArray) (v : List UInt8 × Int) (w : World) (h : DvN w base D m us room n S) (hn : n ≤ 1000000) (hv : m nm = some v) :
    Calls Tryd.prog 20 #[.pointer (some ⟨D, 0, none⟩), .string nm] w (ReadOf v.1 w) := by
  obtain ⟨g, h1, h2, rfl, rfl⟩ := h
  have hv2 := (h2.at_ nm).trans hv
  exact read_hitL base D g S nm (posG g.L nm) (nm, v.1, v.2) w h1 (h2.ok hn) (by rw [lk_hit h2.srt, hv2]; rfl) rfl (lk_at h2.srt hv2)
theorem read_notN (base D : Nat) (m : Mp) (us room : Int) (n : Nat) (S : Nat → Prop) (nm : ByteArray) (w : World) (h : DvN w base D m us room n S) (hn : n ≤ 1000000) (hv : m nm = none) :
    Calls Tryd.prog 20 #[.pointer (some ⟨D, 0, none⟩), .string nm] w fun e w' => e = .returned (.tuple #[.slice none 0 0, .bool false]) ∧ Below w.heap.size w w' := by
  obtain ⟨g, h1, h2, rfl, rfl⟩ := h
  have hv2 := (h2.at_ nm).trans hv
  exact read_noneL base D g S nm w h1 (h2.ok hn) (by rw [lk_hit h2.srt, hv2]; rfl)
theorem deleteN (base D : Nat) (m : Mp) (us room : Int) (n : Nat) (S : Nat → Prop) (nm : ByteArray) (v : List UInt8 × Int) (w : World) (h : DvN w base D m us room n S) (hn : n ≤ 1000000) (hv : m nm = some v) :
    Calls Tryd.prog 45 #[.pointer (some ⟨D, 0, none⟩), .string nm] w (LeftN base D (upM m nm none) (us - v.1.length) room n S (.int .i64 0) w) := by
  obtain ⟨g, h1, h2, rfl, rfl⟩ := h
  have h3 := h2.del hv
  have hv2 := (h2.at_ nm).trans hv
  refine (delete_hitL base D g S nm (posG g.L nm) (nm, v.1, v.2) w h1 (h2.ok hn) h2.live (by rw [lk_hit h2.srt, hv2]; rfl) rfl (lk_at h2.srt hv2)).mono fun e w' hh => ?_
  rw [h3.burnt] at hh
  obtain ⟨he, S', hd, hk⟩ := hh
  exact ⟨he, S', ⟨_, hd, h3, rfl, rfl⟩, hk⟩
theorem delete_notN (base D : Nat) (m : Mp) (us room : Int) (n : Nat) (S : Nat → Prop) (nm : ByteArray) (w : World) (h : DvN w base D m us room n S) (hn : n ≤ 1000000) (hv : m nm = none) :
    Calls Tryd.prog 45 #[.pointer (some ⟨D, 0, none⟩), .string nm] w (LeftN base D m us room n S (.int .i64 4) w) := by
  obtain ⟨g, h1, h2, rfl, rfl⟩ := h
  have hv2 := (h2.at_ nm).trans hv
  refine (delete_noneL base D g S nm w h1 (h2.ok hn) h2.live (by rw [lk_hit h2.srt, hv2]; rfl)).mono fun e w' hh => ?_
  obtain ⟨he, S', hd, hk⟩ := hh
  exact ⟨he, S', ⟨_, hd, h2, rfl, rfl⟩, hk⟩
end Go.Proofs.YtbdiamhhlabojaaDoor
