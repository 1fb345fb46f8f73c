import Derived.Test.YtmkakdfdfdcncaaGreatDoorPGR1ToGR3
import Derived.Test.YtmkakdfdfdcncaaGreatDoorPGQ5ToGQ6
import Derived.Test.YtmkakdfdfdcncaaGreatDoorPGG1ToGWB
import Derived.Test.YtmkakdfdfdcncaaGreatDoorPGSame3ToGSame6
namespace Go.Proofs.YtmkakdfdfdcncaaGreatDoor
set_option linter.unusedVariables false
set_option maxRecDepth 100000
set_option maxHeartbeats 16000000
open Go.RowKit
structure CW (n1 n4 : Nat) (w : World) (V : Nat -> Value) (E : Nat -> List HE) (wr : World) : Prop where
 bel : Below w.heap.size w wr
 inv : HInv wr (w.heap.size + 1) V tyG E
 st : StB E
 l0 : (E 0).length = 1
 l1 : (E 1).length = n1
 l2 : (E 2).length = 0 + 2
 l4 : (E 4).length = n4
theorem CW.later {n1 n4 : Nat} {w wr w' : World} {V : Nat -> Value} {E : Nat -> List HE} (h : CW n1 n4 w V E wr) (hb : Below wr.heap.size wr w') : CW n1 n4 w V E w' :=
 ⟨h.bel.trans (hb.mono h.bel.size), h.inv.later hb, h.st, h.l0, h.l1, h.l2, h.l4⟩
theorem KR.row {B : Nat} {w : World} {a : Option Addr} {xs : List Int} (h : KR B w a xs) : C.RowAt w a xs := h w (Nat.le_refl _) fun _ _ _ => rfl
def dCore (xs : List Int) (de : Int) := if de = 0 then (decG xs).1 else gVoid.core
theorem dec_one {xs : List Int} (hb : C.isBytes xs) {de da : Int} (hd : decE xs = (de, da)) {y : GV} {B : Nat} {w : World} (hv : de ≠ 0 -> y = gVoid) (hg : de = 0 -> y.core = (decG xs).1 /\ DG B w y) : GAt 140737488355328 w y /\ y.core = dCore xs de := by
 unfold dCore
 by_cases h0 : de = 0
 ·obtain ⟨h1, h2⟩ := hg h0
  rw [if_pos h0]
  exact ⟨(dec_at hb (by rw [hd]; exact h0) h1 h2).1.mono (by omega), h1⟩
 ·obtain rfl := hv h0
  rw [if_neg h0]
  exact ⟨gVoid_at w, rfl⟩
structure CQ (n1 n4 : Nat) (w : World) (V : Nat -> Value) (E : Nat -> List HE) (y z : GV) (by_ bz : Nat) (B : Nat) (xa ya : Option Addr) (bs : List Int) (wr : World) : Prop where
 cw : CW n1 n4 w V E wr
 xy : wr.heap[by_]? = some (gBox y)
 xz : wr.heap[bz]? = some (gBox z)
 gy : GAt 140737488355328 wr y
 gz : GAt 140737488355328 wr z
 kx : KR B wr xa bs
 ky : KR B wr ya bs
theorem CQ.later {n1 n4 : Nat} {w : World} {V : Nat -> Value} {E : Nat -> List HE} {y z : GV} {by_ bz B : Nat} {xa ya : Option Addr} {bs : List Int} {wr w' : World} (h : CQ n1 n4 w V E y z by_ bz B xa ya bs wr) (hb : Below wr.heap.size wr w') : CQ n1 n4 w V E y z by_ bz B xa ya bs w' :=
 ⟨h.cw.later hb, blk_later h.xy hb, blk_later h.xz hb, h.gy.later hb, h.gz.later hb, h.kx.later hb, h.ky.later hb⟩
theorem codes_walk (g : GV) (bo : Option Addr) (cb : Nat) (xs : List Int) (w : World) (hm : C.Magic w) (h : GAt 140737488355328 w g) (hfi : GFine g) (hr : C.RowAt w bo xs) (hl : xs.length <= 140737488351232) (hc : xs.length <= cb) (hna : bo = none -> cb = 0) (er at_ : Int) (hE : checkG g (checkF g.ts g.ns) = (er, at_)) (de da : Int) (hd : decE xs = (de, da)) :
  Calls Tryz.prog 4 #[g.val, .slice bo xs.length cb] w fun e w' => e = .returned (.bool true) /\ Below w.heap.size w w' := by
 have e2 : (w.alloc (gBox g)).heap.size = w.heap.size + 1 := by simp
 have H0 : Hid (HG (w.heap.size + 1) (w.alloc (gBox g)) ((w.alloc (gBox g)).alloc gvBoxT) (w.heap.size + 1) (fun _ => hNil) (fun _ => []) 0 0 0) := by
  have := hg_newT _ (w.alloc (gBox g)) (w.alloc (gBox g)) (Below.refl _ _) (Nat.le_refl _)
  rw [e2] at this
  exact this
 have B0 : Hid (∀ wr, Below (w.heap.size + 1) ((w.alloc (gBox g)).alloc gvBoxT) wr -> Below w.heap.size w wr /\ wr.heap[w.heap.size]? = some (gBox g)) := fun wr hb => by
  have b1 := below_alloc (w.alloc (gBox g)) gvBoxT
  rw [e2] at b1
  have b2 := b1.trans hb
  exact ⟨(below_alloc w _).trans (b2.mono (by omega)), blk_later (heap_alloc_new w (gBox g)) (by rw [e2]; exact b2)⟩
 have HA : Hid (∀ wr, Below w.heap.size w wr -> GAt 140737488355328 wr g /\ C.RowAt wr bo xs) := fun wr hb => ⟨h.later hb, C.RowAt.later hr hb⟩
 have HM : Hid (C.Magic w) := hm
 have HE : Hid (checkG g (checkF g.ts g.ns) = (er, at_)) := hE
 have HD : Hid (decE xs = (de, da)) := hd
 have HFI : Hid (GFine g) := hfi
 have HB : Hid (C.isBytes xs) := hr.1
 have HL : Hid (xs.length <= 140737488351232 /\ xs.length <= cb /\ (bo = none -> cb = 0)) := ⟨hl, hc, hna⟩
 have t1 : (er == er) = true := by simp
 have t2 : (de == de) = true := by simp
 have t3 : (da == da) = true := by simp
 clear hm h hfi hr hl hc hna hE hd e2
 go_enter Tryz.func4, Tryz.ntmps4
 go_wp2_with (first
  | (go_at_call 9; refine (hg_gram H0.out (by omega) (by omega) (by omega) g HFI.out (fun wr hb => (HA.out wr (B0.out wr hb).1).1)).mono ?_; rintro e w1 ⟨x, rfl, hs, hx, ho⟩; obtain ⟨V1, E1, k1⟩ := ho.ex; have A1 : Hid (TW g x w V1 E1 (0 + g.ls.length) w1) := ⟨(B0.out w1 ho.bel).1, (B0.out w1 ho.bel).2, k1, hs, hx⟩; clear hs hx ho k1)
  | (go_at_call 19; have XA : Hid (GAt 140737488355328 w1 x /\ x.ps.length <= x.pc) := A1.out.gx.at A1.out.same (HA.out _ A1.out.bel).1; refine (enc_anyB g x _ A1.out.same XA.out.1 XA.out.2 (C.Magic.later HM.out A1.out.bel HM.out.lt) er at_ HE.out).mono ?_; rintro e w2 ⟨xa, xN, xc, rfl, b2, kx, hxN⟩; have A2 : Hid (TW g x w V1 E1 (0 + g.ls.length) w2) := A1.out.later b2; have KX : Hid (KR w1.heap.size w2 xa (encB g er) /\ xN = (encB g er).length) := ⟨kx, hxN⟩; have Z2 : Hid (w1.heap.size <= w2.heap.size) := b2.size; obtain ⟨c0, c1, c2, c3, c4⟩ := kB A2.out.box; clear b2 kx hxN XA)
  | (go_at_call 20; refine (renc_anyB g _ (HA.out _ A2.out.bel).1 er at_ HE.out).mono ?_; rintro e w3 ⟨ya, yN, yc, rfl, b3, ky, hyN⟩; have A3 : Hid (TW g x w V1 E1 (0 + g.ls.length) w3) := A2.out.later b3; have KX3 : Hid (KR w1.heap.size w3 xa (encB g er) /\ xN = (encB g er).length) := ⟨KX.out.1.later b3, KX.out.2⟩; have KY3 : Hid (KR w1.heap.size w3 ya (encB g er) /\ yN = (encB g er).length) := ⟨ky.mono Z2.out, hyN⟩; have CL3 : Hid (Clr V1 (w.heap.size + 1) w1.heap.size w3.heap.size) := ⟨lt_of_block A1.out.hg.inv.hq, fun i k e => Or.inl ((A1.out.hg.inv.row i).lt k e)⟩; clear b3 ky hyN c0 c1 c2 c3 c4)
  | (go_at_call 22; refine (hg_bytes A3.out.hg bo cb xs HL.out.1 (HA.out _ A3.out.bel).2).mono ?_; rintro e w4 ⟨i4, rfl, ⟨V2, E2, hi, hst, l0, l1, l2, l4, hf⟩, o4, b4, r4⟩; have A4 : Hid (CW (0 + g.ls.length) (0 + g.ps.length) w V2 E2 w4) := ⟨A3.out.bel.trans (b4.mono (by omega)), hi, hst, l0, l1, l2, l4⟩; have R4 : Hid (C.RowAt w4 (some ⟨i4, 0, none⟩) xs) := r4; have K4 : Hid (KR w1.heap.size w4 xa (encB g er) /\ KR w1.heap.size w4 ya (encB g er)) := ⟨KX3.out.1.next o4.size (CL3.out.keep hf (Nat.le_refl _)).1, KY3.out.1.next o4.size (CL3.out.keep hf (Nat.le_refl _)).1⟩; clear hi hst l0 l1 l2 l4 hf o4 b4 r4 CL3)
  | (go_at_call 21; refine (dec_any _ (some ⟨i4, 0, none⟩) xs.length (xs.length + 3) xs rfl (Nat.le_trans HL.out.1 (by omega)) (by omega) R4.out (C.Magic.later HM.out A4.out.bel HM.out.lt)).mono ?_; rw [HD.out]; rintro e w5 ⟨y, rfl, b5, hv, hg⟩; have Y5 : Hid (GAt 140737488355328 w5 y /\ y.core = dCore xs de) := dec_one HB.out HD.out hv hg; have A5 : Hid (CW (0 + g.ls.length) (0 + g.ps.length) w V2 E2 (w5.alloc (gBox y))) := (A4.out.later b5).later (below_alloc _ _); have K5 : Hid (KR w1.heap.size (w5.alloc (gBox y)) xa (encB g er) /\ KR w1.heap.size (w5.alloc (gBox y)) ya (encB g er)) := ⟨(K4.out.1.later b5).later (below_alloc _ _), (K4.out.2.later b5).later (below_alloc _ _)⟩; clear b5 hv hg)
  | (go_at_call 23; refine (qdec_any _ bo xs.length cb xs rfl (Nat.le_trans HL.out.1 (by omega)) HL.out.2.1 (HA.out _ A5.out.bel).2 HL.out.2.2).mono ?_; rw [HD.out]; rintro e w6 ⟨z, rfl, b6, hv, hg⟩; have Z6 : Hid (GAt 140737488355328 w6 z /\ z.core = dCore xs de) := dec_one HB.out HD.out hv hg; have Q6 : Hid (CQ (0 + g.ls.length) (0 + g.ps.length) w V2 E2 y z w5.heap.size w6.heap.size w1.heap.size xa ya (encB g er) (w6.alloc (gBox z))) := ⟨(A5.out.later b6).later (below_alloc _ _), blk_later (blk_later (allocAt w5 (gBox y)) b6) (below_alloc _ _), allocAt w6 (gBox z), ((Y5.out.1.later (below_alloc _ _)).later b6).later (below_alloc _ _), Z6.out.1.later (below_alloc _ _), (K5.out.1.later b6).later (below_alloc _ _), (K5.out.2.later b6).later (below_alloc _ _)⟩; clear b6 hv hg)
  | (go_at_call 24; refine (C.same_true xa ya xN yN xc yc (encB g er) _ KX3.out.2 KY3.out.2 (encB_len HE.out) Q6.out.kx.row Q6.out.ky.row).mono ?_; rintro e w7 ⟨rfl, s7⟩; have Q7 : Hid (CQ (0 + g.ls.length) (0 + g.ps.length) w V2 E2 y z w5.heap.size w6.heap.size w1.heap.size xa ya (encB g er) w7) := Q6.out.later (s7 _); obtain ⟨p0, p1, p2, p3, p4⟩ := kB Q7.out.xy; obtain ⟨q0, q1, q2, q3, q4⟩ := kB Q7.out.xz; clear s7)
  | (go_at_call 15; refine (samegram_g _ z y 140737488355328 (Nat.le_refl _) Q7.out.gz Q7.out.gy (same_of_core (Y5.out.2.trans Z6.out.2.symm))).mono ?_; rintro e w8 ⟨rfl, b8⟩; have Q8 : Hid (CW (0 + g.ls.length) (0 + g.ps.length) w V2 E2 w8) := Q7.out.cw.later b8; clear b8 p0 p1 p2 p3 p4 q0 q1 q2 q3 q4)
  | (go_at_call 16; refine (num_g _ _).mono ?_; rintro e wN ⟨rfl, rfl⟩)
  | (go_at_call 17; refine (gintactB _ V2 tyG E2 w8 Q8.out.inv Q8.out.st (by have := Q8.out.l0; omega) (by have := Q8.out.l1; have := HFI.out.ll; omega) (by have := Q8.out.l2; omega) (by have := Q8.out.l4; have := HFI.out.pl; omega)).mono ?_; rintro e w9 ⟨rfl, b9⟩; have Q9 : Hid (Below w.heap.size w w9) := Q8.out.bel.trans (b9.mono Q8.out.bel.size); clear b9)
  | (go_at_call 18; refine (alive_G w9 (C.Magic.later HM.out Q9.out HM.out.lt)).mono ?_; rintro e w10 ⟨rfl, b10⟩; have Q10 : Hid (Below w.heap.size w w10) := Q9.out.trans (b10.mono Q9.out.size); clear b10))
 go_ret
 exact ⟨by simp, Q10.out⟩
theorem codes_all (g : GV) (bo : Option Addr) (cb : Nat) (xs : List Int) (w : World) (hm : C.Magic w) (h : GAt 140737488355328 w g) (hfi : GFine g) (hr : C.RowAt w bo xs) (hl : xs.length <= 140737488351232) (hc : xs.length <= cb) (hna : bo = none -> cb = 0) :
  Calls Tryz.prog 4 #[g.val, .slice bo xs.length cb] w fun e w' => e = .returned (.bool true) /\ Below w.heap.size w w' :=
 codes_walk g bo cb xs w hm h hfi hr hl hc hna _ _ rfl _ _ rfl
end Go.Proofs.YtmkakdfdfdcncaaGreatDoor
