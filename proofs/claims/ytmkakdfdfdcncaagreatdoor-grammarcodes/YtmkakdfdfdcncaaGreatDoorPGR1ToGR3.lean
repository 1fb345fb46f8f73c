import Derived.Test.YtmkakdfdfdcncaaGreatDoorPRefWToRefSeal
import Derived.Test.YtmkakdfdfdcncaaGreatDoorPGCheckR
import Derived.Test.YtmkakdfdfdcncaaGreatDoorPGEnc3
import Derived.Test.YtmkakdfdfdcncaaGreatDoorPGDec9ToGDec11
import Derived.Test.YtmkakdfdfdcncaaGreatDoorPGOk2
import Derived.Test.YtmkakdfdfdcncaaGreatDoorPRegX
import Derived.Test.YtmkakdfdfdcncaaGreatDoorPGBGToGB1
namespace Go.Proofs.YtmkakdfdfdcncaaGreatDoor
set_option linter.unusedVariables false
set_option maxRecDepth 100000
set_option maxHeartbeats 16000000
open Go.RowKit
structure EV (w0 : World) (q : Nat) (xs : List Int) (wr : World) : Prop where
 v : ∃ v, C.VInv wr q v xs 0 /\ ∀ k, v.ownBlock = some k -> w0.heap.size <= k
 bel : Below w0.heap.size w0 wr
 hq : w0.heap.size <= q
structure Oq (q : Nat) (wr w' : World) : Prop where
 size : wr.heap.size <= w'.heap.size
 blk : ∀ (b : Nat) (C : Array Value) (t : TypeId), wr.heap[b]? = some (.cells C t (0, 0)) -> t ≠ 5 -> b ≠ q -> w'.heap[b]? = some (.cells C t (0, 0))
theorem ev_step {w0 wr w' : World} {q : Nat} {xs xs' : List Int} {v v' : Value} (h : EV w0 q xs wr) (hv : C.VInv wr q v xs 0) (hk : ∀ k, v.ownBlock = some k -> w0.heap.size <= k) (hv' : C.VInv w' q v' xs' 0) (hg : C.WGrew wr w' q v v') : EV w0 q xs' w' /\ Oq q wr w' := by
 have hz := h.bel.size
 have hq := h.hq
 refine ⟨⟨⟨v', hv', fun k e => ?_⟩, h.bel.trans ⟨hg.os, hg.tape, hg.output, hg.size, fun k hk' => hg.block k (by omega) (by omega) (fun e => by have := hk k e.symm; omega)⟩, h.hq⟩, hg.size, fun b D t hb ht hne => ?_⟩
 ·rcases hg.moved with r | ⟨z, r, hz'⟩
  ·exact hk k (r ▸ e)
  ·rw [e] at r; have := Option.some.inj r; omega
 ·exact (hg.block b (lt_of_block hb) hne (C.own_ne hv.own hb ht)).trans hb
section
variable {w0 wr : World} {q : Nat} {xs : List Int}
theorem ev_int (h : EV w0 q xs wr) (n : Int) (h0 : 0 <= n) (h1 : n <= 9223372036854775807) (hl : xs.length <= 100000000000) :
  Calls Tryz.prog 73 #[.pointer (some ⟨q, 0, none⟩), .int .i64 n] wr fun e w' => e = .returned (.tuple #[]) /\ EV w0 q (xs ++ C.enc 10 n) w' /\ Oq q wr w' := by
 obtain ⟨v, hv, hk⟩ := h.v
 refine (C.vint_pos n hv h0 h1 (by omega) (xs ++ C.enc 10 n) (by simp)).mono ?_
 rintro e w' ⟨rfl, v', hv', hg⟩
 exact ⟨rfl, ev_step h hv hk hv' hg⟩
theorem ev_sg (h : EV w0 q xs wr) (n : Int) (h0 : -9223372036854775808 <= n) (h1 : n <= 9223372036854775807) (hl : xs.length <= 100000000000) :
  Calls Tryz.prog 75 #[.pointer (some ⟨q, 0, none⟩), .int .i64 n] wr fun e w' => e = .returned (.tuple #[]) /\ EV w0 q (xs ++ C.enc 10 (C.foldS n)) w' /\ Oq q wr w' := by
 obtain ⟨v, hv, hk⟩ := h.v
 refine (C.vsigned n hv h0 h1 (by omega) (xs ++ C.enc 10 (C.foldS n)) (by simp)).mono ?_
 rintro e w' ⟨rfl, v', hv', hg⟩
 exact ⟨rfl, ev_step h hv hk hv' hg⟩
theorem ev_text (h : EV w0 q xs wr) (s : ByteArray) (hs : s.size <= 1000000000) (hl : xs.length <= 100000000000) :
  Calls Tryz.prog 74 #[.pointer (some ⟨q, 0, none⟩), .string s] wr fun e w' => e = .returned (.tuple #[]) /\ EV w0 q (xs ++ encS s) w' /\ Oq q wr w' := by
 obtain ⟨v, hv, hk⟩ := h.v
 refine (C.vtext s hv (by omega) (xs ++ encS s) (by simp [encS])).mono ?_
 rintro e w' ⟨rfl, v', hv', hg⟩
 exact ⟨rfl, ev_step h hv hk hv' hg⟩
end
theorem EV.later {w0 wr w' : World} {q : Nat} {xs : List Int} (h : EV w0 q xs wr) (hb : Below wr.heap.size wr w') : EV w0 q xs w' := by
 obtain ⟨v, hv, hk⟩ := h.v
 exact ⟨⟨v, hv.later hb, hk⟩, h.bel.trans (hb.mono h.bel.size), h.hq⟩
theorem enc_take {α : Type} (f : α -> List Int) (l : List α) (k : Nat) (d : α) (hk : k < l.length) (pre : List Int) : pre ++ (C.enc 10 (l.length : Int) ++ (l.take k).flatMap f) ++ f (l.getD k d) = pre ++ (C.enc 10 (l.length : Int) ++ (l.take (k + 1)).flatMap f) := by
 rw [flat_succ f l k d hk]; simp [List.append_assoc]
theorem ev_new (w : World) : EV w w.heap.size [] (w.alloc (.cells #[.slice none 0 0, .int .i64 0] 139)) :=
 ⟨⟨.slice none 0 0, ⟨heap_alloc_new w _, C.Own.nil _⟩, fun k hk => by simp [Value.ownBlock] at hk⟩, below_alloc w _, Nat.le_refl _⟩
theorem wpAnyX_tc {P : Program} {ops : Array Oper} {Q : Exit -> Act -> World -> Prop} {md : Region.Mode} {i : Nat} {oi : Oper} {v : Value} {S0 : World -> Prop} {fuel : Nat} {listed : Array Bool} {a : Act} {w : World} (hi' : ops.toList[i]? = some oi)
  (hs : Region.noSelect ops = true) (hf : Region.free md ops listed i = true) (hr : (Region.ready md ops listed).contains i = true)
  (hQ : ∀ c a w, Q (.panic c) (a.put oi.dst v) w -> Q (.panic c) a w) (hy : YieldsIf P ops S0 oi v a) (hS : S0 w)
  (h : wpAnyX P md ops Q (fun _ => S0) fuel (listed.setIfInBounds i true) (a.put oi.dst v) w) : wpAnyX P md ops Q (fun _ => S0) (fuel + 1) listed a w :=
 have hi : ops[i]? = some oi := by rw [<- Array.getElem?_toList]; exact hi'
 wpAnyX_first (Cl := fun _ => True) (T := S0) hi (Region.noSelect_spec hs) hQ (fun _ _ _ _ => trivial) (fun _ _ _ _ h => h) (fun _ _ => Iff.rfl) fuel listed a w (Region.free_spec hi hf) (by simpa using hr) trivial hy hS h
theorem run_wint {o : Oper} {a : Act} {t0 t1 : TypeId} {v0 v1 : Value} {x0 x1 : Operand} (hop : o.op = Op.call { callee := Callee.value (Operand.func 73), args := #[x0, x1], argTypes := #[t0, t1] }) (h0 : a.eval x0 = v0) (h1 : a.eval x1 = v1) (w : World) : (execOp a.eval o).run Tryz.prog w = .ok (.enter 73 #[v0, v1]) w := by
 have hf : a.eval (Operand.func 73) = .func (.func 73) #[] #[] := rfl
 simp [execOp, hop, resolve, invoke, h0, h1, hf, Deferred.ofValue]
theorem str_at {w : World} {ao : Option Addr} {l : List ByteArray} (h : StrRow w ao l) (hl : l ≠ []) : ∃ b off, ao = some ⟨b, off, none⟩ /\ ∀ i, i < l.length -> w.cell? ⟨b, off + i, none⟩ = some (.string (l.getD i ByteArray.empty)) := by
 obtain ⟨b, off, e, _, hc⟩ := h hl
 exact ⟨b, off, e, hc⟩
theorem int_at {w : World} {ao : Option Addr} {l : List Int} (h : InRow w ao l) (hl : l ≠ []) : ∃ b off, ao = some ⟨b, off, none⟩ /\ ∀ i, i < l.length -> w.cell? ⟨b, off + i, none⟩ = some (.int .i64 (l.getD i 0)) := by
 obtain ⟨b, off, e, _, hc⟩ := h hl
 exact ⟨b, off, e, hc⟩
theorem sym_at {w : World} {ao : Option Addr} {l : List (Int × Int)} (h : SymRow w ao l) (hl : l ≠ []) : ∃ b off, ao = some ⟨b, off, none⟩ /\ ∀ i, i < l.length -> w.cell? ⟨b, off + i * 2, none⟩ = some (.int .i64 (l.getD i (0, 0)).1) /\ w.cell? ⟨b, off + i * 2 + 1, none⟩ = some (.int .i64 (l.getD i (0, 0)).2) := by
 obtain ⟨b, off, e, _, hc⟩ := h hl
 exact ⟨b, off, e, hc⟩
theorem renc_ok (g : GV) (w : World) (h : GAt 1048576 w g) (at_ : Int) (hE : checkG g (checkF g.ts g.ns) = (0, at_)) (ok : OkC g) :
  Calls Tryz.prog 20 #[g.val] w fun e w' => ∃ gg N c, e = .returned (.tuple #[.slice (some ⟨gg, 0, none⟩) N c, .int .i64 0]) /\ C.Own w' (.slice (some ⟨gg, 0, none⟩) N c) (C.frame 1 (encG g)) /\ w.heap.size <= gg /\ Below w.heap.size w w' := by
 have hM : (checkG g (checkF g.ts g.ns)).1 = 0 := by rw [hE]
 have HMY : Hid (∀ w0, GAt 140737488355328 w0 g -> Calls Tryz.prog 27 #[g.val] w0 fun e w' => e = .returned (.int .i64 0) /\ Below w0.heap.size w0 w') := fun w0 h0 => by have := refmay_G g w0 h0; rw [hM] at this; exact this
 have t0 : ((0 : Int) != 0) = false := by simp
 have HA0 : Hid (∀ wr, Below w.heap.size w wr -> GAt 1048576 wr g) := fun wr hb => h.later hb
 have OG : Hid (OkG g) := ok.okg
 have OD : Hid (OkD g) := ok.okd
 have hlen : (encL encS g.ts).length + (encL encS g.ns).length + (C.enc 10 g.start).length + (encL encP g.ps).length + (encL encV g.ls).length <= 16777216 := by
  have := ok.enc_len
  simp only [encG, List.length_append] at this
  omega
 have htl := h.tl
 have hnl := h.nl
 have hpl := h.pl
 have hll := h.ll
 have GC0 : Hid True := trivial
 have HF : Hid (C.frame 1 (encG g) = C.frame 1 ([] ++ encL encS g.ts ++ encL encS g.ns ++ C.enc 10 g.start ++ encL encP g.ps ++ encL encV g.ls)) := by show _ = _; simp [encG, List.append_assoc]
 have HEL : Hid (([] ++ encL encS g.ts ++ encL encS g.ns ++ C.enc 10 g.start ++ encL encP g.ps ++ encL encV g.ls).length <= 16777216) := by show _ <= _; simp only [List.nil_append, List.length_append]; omega
 clear hM h hE ok
 go_enter Tryz.func20, Tryz.ntmps20
 go_wp2_with (first
  | (go_at_call 27; refine (HMY.out _ ((HA0.out _ (below_alloc _ _)).mono (by omega))).mono ?_; rintro e w1 ⟨rfl, b1⟩; have CB : Hid (BoxG g w.heap.size w1) := (BoxG.new (g := g) (w := w) (t := 26)).later b1; have BW : Hid (Below w.heap.size w w1) := (below_alloc w _).trans (b1.mono (below_alloc w _).size); have E0 : Hid (EV w1 w1.heap.size [] (w1.alloc (.cells #[.slice none 0 0, .int .i64 0] 139))) := ev_new w1; have x0 := (CB.out.later E0.out.bel).g0; clear b1)
  | (go_at_call 73; guard_hyp GC0 : Hid True; refine (ev_int E0.out (g.ts.length : Int) (by omega) (by omega) (by simp)).mono ?_; rintro e w2 ⟨rfl, hv, ho⟩; have E1 : Hid (EV w1 w1.heap.size ([] ++ (C.enc 10 (g.ts.length : Int) ++ (g.ts.take 0).flatMap encS)) w2) := (by show EV _ _ _ _; simpa using hv); clear GC0 hv ho x0))
 have HA : Hid (∀ wr, Below w1.heap.size w1 wr -> GAt 1048576 wr g) := fun wr hb => HA0.out wr (BW.out.trans (hb.mono BW.out.size))
 have HX : Hid (∀ wr, Below w1.heap.size w1 wr -> BoxG g w.heap.size wr) := fun wr hb => CB.out.later hb
 go_loopw [6] (fun z wr => ∃ k : Nat, k <= g.ts.length /\ z = .int .i64 k /\ EV w1 w1.heap.size ([] ++ (C.enc 10 (g.ts.length : Int) ++ (g.ts.take k).flatMap encS)) wr) (fun z _ => g.ts.length - (intOf z).toNat)
 case atStart => exact ⟨0, Nat.zero_le _, rfl, E1.out⟩
 case round =>
  clear E1
  obtain ⟨k, hk, rfl, hV⟩ := hrel
  have HV : Hid (EV w1 w1.heap.size ([] ++ (C.enc 10 (g.ts.length : Int) ++ (g.ts.take k).flatMap encS)) wr) := hV
  have x0 := (HX.out wr hV.bel).g0
  by_cases hlt : k < g.ts.length
  ·have klt : (k : Int) < (g.ts.length : Int) := by omega
   obtain ⟨b, off, hab, hc⟩ := str_at (HA.out wr hV.bel).t (by intro e; rw [e] at hlt; simp at hlt)
   have hck := hc k hlt
   have hmem : g.ts.getD k ByteArray.empty ∈ g.ts := by simp [List.getD, hlt]
   have HSZ : Hid ((g.ts.getD k ByteArray.empty).size <= 1000000000) := OG.out.ts _ hmem
   have HN : Hid ([] ++ (C.enc 10 (g.ts.length : Int) ++ (g.ts.take k).flatMap encS) ++ encS (g.ts.getD k ByteArray.empty) = [] ++ (C.enc 10 (g.ts.length : Int) ++ (g.ts.take (k + 1)).flatMap encS)) := enc_take encS g.ts k ByteArray.empty hlt _
   have HB : Hid (([] ++ (C.enc 10 (g.ts.length : Int) ++ (g.ts.take k).flatMap encS)).length <= 100000000000) := by
    have h1 := flat_le encS g.ts k
    have h2 : (encL encS g.ts).length = (C.enc 10 (g.ts.length : Int)).length + (g.ts.flatMap encS).length := by rw [encL, List.length_append]
    show _ <= _
    simp only [List.nil_append, List.length_append]
    omega
   rw [hab] at x0
   clear hc hmem hV hab
   generalize g.ts.getD k ByteArray.empty = s at *
   go_wp2_with (go_at_call 74; refine (ev_text HV.out s HSZ.out HB.out).mono ?_; rintro e w3 ⟨rfl, hv, ho⟩; have V3 : Hid (EV w1 w1.heap.size ([] ++ (C.enc 10 (g.ts.length : Int) ++ (g.ts.take (k + 1)).flatMap encS)) w3) := (by rw [<- HN.out]; exact hv); clear hv ho)
   go_roundw
   case rel => exact ⟨k + 1, by omega, by go_num, V3.out⟩
   case measure => simp [intOf]; omega
  ·obtain rfl : k = g.ts.length := by omega
   have hV2 : EV w1 w1.heap.size ([] ++ encL encS g.ts) wr := by rw [List.take_length] at hV; exact hV
   have E2 : Hid (EV w1 w1.heap.size ([] ++ encL encS g.ts) wr) := hV2
   clear hV HV hk hlt hV2
   have hb2 : ([] ++ encL encS g.ts).length <= 100000000000 := by simp only [List.nil_append]; omega
   have y1 := (HX.out wr E2.out.bel).g1
   go_wp2_with (go_at_call 73; refine (ev_int E2.out (g.ns.length : Int) (by omega) (by omega) hb2).mono ?_; rintro e w3 ⟨rfl, hv, ho⟩; have E3 : Hid (EV w1 w1.heap.size ([] ++ encL encS g.ts ++ (C.enc 10 (g.ns.length : Int) ++ (g.ns.take 0).flatMap encS)) w3) := (by show EV _ _ _ _; simpa using hv); clear hv ho y1)
   go_loopw [7] (fun z wr => ∃ k : Nat, k <= g.ns.length /\ z = .int .i64 k /\ EV w1 w1.heap.size ([] ++ encL encS g.ts ++ (C.enc 10 (g.ns.length : Int) ++ (g.ns.take k).flatMap encS)) wr) (fun z _ => g.ns.length - (intOf z).toNat)
   case atStart => exact ⟨0, Nat.zero_le _, rfl, E3.out⟩
   case round =>
    clear E3
    obtain ⟨k, hk, rfl, hV⟩ := hrel
    have HV : Hid (EV w1 w1.heap.size ([] ++ encL encS g.ts ++ (C.enc 10 (g.ns.length : Int) ++ (g.ns.take k).flatMap encS)) wr) := hV
    have x0 := (HX.out wr hV.bel).g1
    by_cases hlt : k < g.ns.length
    ·have klt : (k : Int) < (g.ns.length : Int) := by omega
     obtain ⟨b, off, hab, hc⟩ := str_at (HA.out wr hV.bel).n_ (by intro e; rw [e] at hlt; simp at hlt)
     have hck := hc k hlt
     have hmem : g.ns.getD k ByteArray.empty ∈ g.ns := by simp [List.getD, hlt]
     have HSZ : Hid ((g.ns.getD k ByteArray.empty).size <= 1000000000) := OG.out.ns _ hmem
     have HN : Hid ([] ++ encL encS g.ts ++ (C.enc 10 (g.ns.length : Int) ++ (g.ns.take k).flatMap encS) ++ encS (g.ns.getD k ByteArray.empty) = [] ++ encL encS g.ts ++ (C.enc 10 (g.ns.length : Int) ++ (g.ns.take (k + 1)).flatMap encS)) := enc_take encS g.ns k ByteArray.empty hlt _
     have HB : Hid (([] ++ encL encS g.ts ++ (C.enc 10 (g.ns.length : Int) ++ (g.ns.take k).flatMap encS)).length <= 100000000000) := by
      have h1 := flat_le encS g.ns k
      have h2 : (encL encS g.ns).length = (C.enc 10 (g.ns.length : Int)).length + (g.ns.flatMap encS).length := by rw [encL, List.length_append]
      show _ <= _
      simp only [List.nil_append, List.length_append]
      omega
     rw [hab] at x0
     clear hc hmem hV hab
     generalize g.ns.getD k ByteArray.empty = s at *
     go_wp2_with (go_at_call 74; refine (ev_text HV.out s HSZ.out HB.out).mono ?_; rintro e w3 ⟨rfl, hv, ho⟩; have V3 : Hid (EV w1 w1.heap.size ([] ++ encL encS g.ts ++ (C.enc 10 (g.ns.length : Int) ++ (g.ns.take (k + 1)).flatMap encS)) w3) := (by rw [<- HN.out]; exact hv); clear hv ho)
     go_roundw
     case rel => exact ⟨k + 1, by omega, by go_num, V3.out⟩
     case measure => simp [intOf]; omega
    ·obtain rfl : k = g.ns.length := by omega
     have hV2 : EV w1 w1.heap.size ([] ++ encL encS g.ts ++ encL encS g.ns) wr := by rw [List.take_length] at hV; exact hV
     have E4 : Hid (EV w1 w1.heap.size ([] ++ encL encS g.ts ++ encL encS g.ns) wr) := hV2
     clear hV HV hk hlt hV2
     have hb4 : ([] ++ encL encS g.ts ++ encL encS g.ns).length <= 100000000000 := by simp only [List.nil_append, List.length_append]; omega
     have hb5 : ([] ++ encL encS g.ts ++ encL encS g.ns ++ C.enc 10 g.start).length <= 100000000000 := by simp only [List.nil_append, List.length_append]; omega
     have hst := OG.out.st
     have y2 := (HX.out wr E4.out.bel).g2
     have GI2 : Hid True := trivial
     go_wp2_with (first
      | (go_at_call 73; guard_hyp GI2 : Hid True; refine (ev_int E4.out g.start hst.1 (by omega) hb4).mono ?_; rintro e w4 ⟨rfl, hv, ho⟩; have E4b : Hid (EV w1 w1.heap.size ([] ++ encL encS g.ts ++ encL encS g.ns ++ C.enc 10 g.start) w4) := hv; clear GI2 hv ho y2; have y3 := (HX.out w4 E4b.out.bel).g3)
      | (go_at_call 73; refine (ev_int E4b.out (g.ps.length : Int) (by omega) (by omega) hb5).mono ?_; rintro e w5 ⟨rfl, hv, ho⟩; have E5 : Hid (EV w1 w1.heap.size ([] ++ encL encS g.ts ++ encL encS g.ns ++ C.enc 10 g.start ++ (C.enc 10 (g.ps.length : Int) ++ (g.ps.take 0).flatMap encP)) w5) := (by show EV _ _ _ _; simpa using hv); clear hv ho y3))
     go_loopw [8] (fun z wr => ∃ k : Nat, k <= g.ps.length /\ z = .int .i64 k /\ EV w1 w1.heap.size ([] ++ encL encS g.ts ++ encL encS g.ns ++ C.enc 10 g.start ++ (C.enc 10 (g.ps.length : Int) ++ (g.ps.take k).flatMap encP)) wr) (fun z _ => g.ps.length - (intOf z).toNat)
     case atStart => exact ⟨0, Nat.zero_le _, rfl, E5.out⟩
     case round =>
      clear E5
      obtain ⟨k, hk, rfl, hV⟩ := hrel
      have HV : Hid (EV w1 w1.heap.size ([] ++ encL encS g.ts ++ encL encS g.ns ++ C.enc 10 g.start ++ (C.enc 10 (g.ps.length : Int) ++ (g.ps.take k).flatMap encP)) wr) := hV
      have x0 := (HX.out wr hV.bel).g3
      by_cases hlt : k < g.ps.length
      ·have klt : (k : Int) < (g.ps.length : Int) := by omega
       obtain ⟨pb, po, hab, _, hcs⟩ := (HA.out wr hV.bel).p.cells (by intro e; rw [e] at hlt; simp at hlt)
       obtain ⟨hc0, hc1, hc2⟩ := hcs k hlt
       have hmem : g.ps.getD k .none ∈ g.ps := by simp [List.getD, hlt]
       have HOK : Hid (OkP (g.ps.getD k .none)) := OG.out.ps _ hmem
       have HOQ : Hid (OkQ (g.ps.getD k .none)) := OD.out.ps _ hmem
       have HRW : Hid (∀ wr, Below w1.heap.size w1 wr -> SymRow wr (g.ps.getD k .none).ra (g.ps.getD k .none).right) := fun wr hb => (HA.out wr hb).p.rows _ hmem
       have HN : Hid (([] ++ encL encS g.ts ++ encL encS g.ns ++ C.enc 10 g.start ++ (C.enc 10 (g.ps.length : Int) ++ (g.ps.take k).flatMap encP)) ++ encP (g.ps.getD k .none) = ([] ++ encL encS g.ts ++ encL encS g.ns ++ C.enc 10 g.start ++ (C.enc 10 (g.ps.length : Int) ++ (g.ps.take (k + 1)).flatMap encP))) := enc_take encP g.ps k .none hlt _
       have hB : (([] ++ encL encS g.ts ++ encL encS g.ns ++ C.enc 10 g.start ++ (C.enc 10 (g.ps.length : Int) ++ (g.ps.take k).flatMap encP)) ++ encP (g.ps.getD k .none)).length <= 16777216 := by
        rw [HN.out]
        have h1 := flat_le encP g.ps (k + 1)
        have h2 : (encL encP g.ps).length = (C.enc 10 (g.ps.length : Int)).length + (g.ps.flatMap encP).length := by rw [encL, List.length_append]
        simp only [List.nil_append, List.length_append]
        omega
       rw [hab] at x0
       clear hmem hV hcs hab
       generalize hP : ([] ++ encL encS g.ts ++ encL encS g.ns ++ C.enc 10 g.start ++ (C.enc 10 (g.ps.length : Int) ++ (g.ps.take k).flatMap encP)) = P at *
       generalize hP2 : ([] ++ encL encS g.ts ++ encL encS g.ns ++ C.enc 10 g.start ++ (C.enc 10 (g.ps.length : Int) ++ (g.ps.take (k + 1)).flatMap encP)) = P2 at *
       generalize g.ps.getD k .none = x at *
       obtain ⟨vl, vra, vrc, vr, vp⟩ := x
       simp only at hc0 hc1 hc2
       have hrl := HOK.out.l
       simp only at hrl
       have hvl := HOK.out.h0
       simp only at hvl
       have hvp := HOK.out.h1
       simp only at hvp
       have HLB : Hid (P.length + (C.enc 10 vl).length + (C.enc 10 (vr.length : Int)).length + (vr.flatMap encY).length + (C.enc 10 (C.foldS vp)).length <= 16777216) := by
        show _ <= _
        simp only [encP, encL, List.length_append] at hB
        omega
       have GI1 : Hid True := trivial
       have HPB : Hid (EV w1 w1.heap.size P (wr.alloc (.cells #[.int .i64 vl, .slice vra vr.length vrc, .int .i64 vp] 72)) /\ (wr.alloc (.cells #[.int .i64 vl, .slice vra vr.length vrc, .int .i64 vp] 72)).heap[wr.heap.size]? = some (.cells #[.int .i64 vl, .slice vra vr.length vrc, .int .i64 vp] 72) /\ w1.heap.size < wr.heap.size) := ⟨HV.out.later (below_alloc _ _), heap_alloc_new wr _, by obtain ⟨v, hv, _⟩ := HV.out.v; exact lt_of_block hv.hq⟩
       have KB : Hid (∀ w' : World, w'.heap[wr.heap.size]? = some (.cells #[.int .i64 vl, .slice vra vr.length vrc, .int .i64 vp] 72) -> w'.cell? ⟨wr.heap.size, 0, none⟩ = some (.int .i64 vl) /\ w'.cell? ⟨wr.heap.size, 1, none⟩ = some (.slice vra vr.length vrc) /\ w'.cell? ⟨wr.heap.size, 2, none⟩ = some (.int .i64 vp)) := fun w' hb => ⟨(cellq_any hb).trans rfl, (cellq_any hb).trans rfl, (cellq_any hb).trans rfl⟩
       obtain ⟨wk, HWK⟩ : ∃ wk : World, Hid (wk = wr) := ⟨_, rfl⟩
       go_wp2_with (first
        | (go_at_call 73; guard_hyp GI1 : Hid True; refine (ev_int HPB.out.1 vl hvl.1 (by omega) (by have := HLB.out; omega)).mono ?_; rintro e w3 ⟨rfl, hv, ho⟩; have V3 : Hid (EV w1 w1.heap.size (P ++ C.enc 10 vl) w3) := hv; have B3 : Hid (w3.heap[wr.heap.size]? = some (.cells #[.int .i64 vl, .slice vra vr.length vrc, .int .i64 vp] 72)) := ho.blk _ _ _ HPB.out.2.1 (by decide) (by have := HPB.out.2.2; omega); clear GI1 hv ho x0 hc0 hc1 hc2; obtain ⟨hc0, hc1, hc2⟩ := KB.out w3 B3.out)
        | (go_at_call 73; refine (ev_int V3.out (vr.length : Int) (by omega) (by omega) (by have := HLB.out; simp only [List.length_append]; omega)).mono ?_; rintro e w4 ⟨rfl, hv, ho⟩; have V4 : Hid (EV w1 w1.heap.size ((P ++ C.enc 10 vl) ++ (C.enc 10 (vr.length : Int) ++ (vr.take 0).flatMap encY)) w4) := (by show EV _ _ _ _; simpa using hv); have B4 : Hid (w4.heap[wk.heap.size]? = some (.cells #[.int .i64 vl, .slice vra vr.length vrc, .int .i64 vp] 72)) := (by rw [HWK.out]; exact ho.blk _ _ _ B3.out (by decide) (by have := HPB.out.2.2; omega)); clear hv ho hc0 hc1 hc2))
       have KB2 : Hid (∀ w' : World, w'.heap[wk.heap.size]? = some (.cells #[.int .i64 vl, .slice vra vr.length vrc, .int .i64 vp] 72) -> w'.cell? ⟨wk.heap.size, 0, none⟩ = some (.int .i64 vl) /\ w'.cell? ⟨wk.heap.size, 1, none⟩ = some (.slice vra vr.length vrc) /\ w'.cell? ⟨wk.heap.size, 2, none⟩ = some (.int .i64 vp)) := fun w' hb => ⟨(cellq_any hb).trans rfl, (cellq_any hb).trans rfl, (cellq_any hb).trans rfl⟩
       have HWL : Hid (w1.heap.size < wk.heap.size) := by show _ < _; rw [HWK.out]; exact HPB.out.2.2
       have hwk := HWK.out
       clear HPB KB HWK B3
       rw [<- hwk]
       clear hwk
       go_loopw [10] (fun z wr => ∃ j : Nat, j <= vr.length /\ z = .int .i64 j /\ EV w1 w1.heap.size ((P ++ C.enc 10 vl) ++ (C.enc 10 (vr.length : Int) ++ (vr.take j).flatMap encY)) wr /\ wr.heap[wk.heap.size]? = some (.cells #[.int .i64 vl, .slice vra vr.length vrc, .int .i64 vp] 72)) (fun z _ => vr.length - (intOf z).toNat)
       case atStart => exact ⟨0, Nat.zero_le _, rfl, V4.out, B4.out⟩
       case round =>
        clear V3 V4 B4
        obtain ⟨j, hj, rfl, hV, hBx⟩ := hrel
        have HW : Hid (EV w1 w1.heap.size ((P ++ C.enc 10 vl) ++ (C.enc 10 (vr.length : Int) ++ (vr.take j).flatMap encY)) wr) := hV
        have HBx : Hid (wr.heap[wk.heap.size]? = some (.cells #[.int .i64 vl, .slice vra vr.length vrc, .int .i64 vp] 72)) := hBx
        obtain ⟨hc0, hc1, hc2⟩ := KB2.out wr hBx
        by_cases hjt : j < vr.length
        ·have jlt : (j : Int) < (vr.length : Int) := by omega
         obtain ⟨b, off, hab2, hc⟩ := sym_at (HRW.out wr hV.bel) (by intro e; rw [e] at hjt; simp at hjt)
         obtain ⟨hcj, hcj2⟩ := hc j hjt
         have HSY : Hid (∀ w' : World, Below w1.heap.size w1 w' -> w'.heap[wk.heap.size]? = some (.cells #[.int .i64 vl, .slice vra vr.length vrc, .int .i64 vp] 72) -> w'.cell? ⟨wk.heap.size, 1, none⟩ = some (.slice (some ⟨b, off, none⟩) vr.length vrc) /\ w'.cell? ⟨b, off + j * 2, none⟩ = some (.int .i64 (vr.getD j (0, 0)).1) /\ w'.cell? ⟨b, off + j * 2 + 1, none⟩ = some (.int .i64 (vr.getD j (0, 0)).2)) := fun w' hb hbx => by
          obtain ⟨b', off', e', hc'⟩ := sym_at (HRW.out w' hb) (by intro e; rw [e] at hjt; simp at hjt)
          rw [hab2] at e'
          simp only [Option.some.injEq, Addr.mk.injEq, and_true] at e'
          obtain ⟨rfl, rfl⟩ := e'
          refine ⟨?_, hc' j hjt⟩
          rw [<- hab2]
          exact (KB2.out w' hbx).2.1
         have hmy : vr.getD j (0, 0) ∈ vr := by simp [List.getD, hjt]
         have hz := HOQ.out.2.2.1 _ hmy
         have HN2 : Hid (((P ++ C.enc 10 vl) ++ (C.enc 10 (vr.length : Int) ++ (vr.take j).flatMap encY)) ++ encY (vr.getD j (0, 0)) = ((P ++ C.enc 10 vl) ++ (C.enc 10 (vr.length : Int) ++ (vr.take (j + 1)).flatMap encY))) := enc_take encY vr j (0, 0) hjt _
         have HB2 : Hid (((P ++ C.enc 10 vl) ++ (C.enc 10 (vr.length : Int) ++ (vr.take j).flatMap encY)).length <= 100000000000) := by
          have h1 := flat_le encY vr j
          have := HLB.out
          show _ <= _
          simp only [List.length_append]
          omega
         rw [hab2] at hc1
         clear hc hV hBx hmy hab2
         generalize vr.getD j (0, 0) = s at *
         obtain ⟨s1, s2⟩ := s
         simp only at hcj hcj2 hz
         have HEY : Hid (encY (s1, s2) = C.enc 10 (2 * s2 + s1 - 1)) := by
          show _ = _
          unfold encY
          congr 1
          rcases hz.1 with e | e
          ·subst e; simp
          ·subst e; simp; omega
         have hk12 : 1 <= s1 /\ s1 <= 2 := by rcases hz.1 with e | e <;> omega
         have hz2a := hz.2.1
         have hz2b := hz.2.2
         have hk1a := hk12.1
         have hk1b := hk12.2
         have HWR : Hid (IntKind.i64.wrap (IntKind.i64.wrap (IntKind.i64.wrap (2 * s2) + s1) - 1) = 2 * s2 + s1 - 1) := by show _ = _; rw [IntWalk.i64_in (2 * s2) ⟨by omega, by omega⟩, IntWalk.i64_in (2 * s2 + s1) ⟨by omega, by omega⟩, IntWalk.i64_in (2 * s2 + s1 - 1) ⟨by omega, by omega⟩]
         have hD : Below wr.heap.size wr wr.drew := (Below.refl _ _).drew
         have HWd : Hid (EV w1 w1.heap.size ((P ++ C.enc 10 vl) ++ (C.enc 10 (vr.length : Int) ++ (vr.take j).flatMap encY)) wr.drew) := HW.out.later hD
         go_wp2
         refine wp_region_x (S := fun _ => fun w' => w'.cell? ⟨wk.heap.size, 1, none⟩ = some (.slice (some ⟨b, off, none⟩) vr.length vrc) /\ w'.cell? ⟨b, off + j * 2, none⟩ = some (.int .i64 s1) /\ w'.cell? ⟨b, off + j * 2 + 1, none⟩ = some (.int .i64 s2)) (by kernel_rfl) ?_
         have hs0 : Hid (wr.drew.cell? ⟨wk.heap.size, 1, none⟩ = some (.slice (some ⟨b, off, none⟩) vr.length vrc) /\ wr.drew.cell? ⟨b, off + j * 2, none⟩ = some (.int .i64 s1) /\ wr.drew.cell? ⟨b, off + j * 2 + 1, none⟩ = some (.int .i64 s2)) := HSY.out wr.drew HWd.out.bel HBx.out
         refine wpAnyX_tc (i := 0) (v := ?_) rfl (by kernel_rfl) (by decide +kernel) (by decide +kernel) (fun _ _ _ h => h) (Or.inl ⟨by rfl, ?_⟩) hs0.out ?_
         rotate_left
         ·(intro w hSw; (try dsimp only at hSw); go_simp; try (with_reducible rfl))
         (try simp only [Act.put, lsA, lsZ, lsN])
         refine wpAnyX_tc (i := 1) (v := ?_) rfl (by kernel_rfl) (by decide +kernel) (by decide +kernel) (fun _ _ _ h => h) (Or.inl ⟨by rfl, ?_⟩) hs0.out ?_
         rotate_left
         ·(intro w hSw; (try dsimp only at hSw); go_simp; try (with_reducible rfl))
         (try simp only [Act.put, lsA, lsZ, lsN])
         refine wpAnyX_tc (i := 2) (v := ?_) rfl (by kernel_rfl) (by decide +kernel) (by decide +kernel) (fun _ _ _ h => h) (Or.inl ⟨by rfl, ?_⟩) hs0.out ?_
         rotate_left
         ·(intro w hSw; (try dsimp only at hSw); go_simp; try (with_reducible rfl))
         (try simp only [Act.put, lsA, lsZ, lsN])
         refine wpAnyX_tc (i := 3) (v := ?_) rfl (by kernel_rfl) (by decide +kernel) (by decide +kernel) (fun _ _ _ h => h) (Or.inl ⟨by rfl, ?_⟩) hs0.out ?_
         rotate_left
         ·(intro w hSw; (try dsimp only at hSw); go_simp; try (with_reducible rfl))
         (try simp only [Act.put, lsA, lsZ, lsN])
         refine wpAnyX_tc (i := 4) (v := ?_) rfl (by kernel_rfl) (by decide +kernel) (by decide +kernel) (fun _ _ _ h => h) (Or.inl ⟨by rfl, ?_⟩) hs0.out ?_
         rotate_left
         ·(intro w hSw; (try dsimp only at hSw); go_simp; try (with_reducible rfl))
         (try simp only [Act.put, lsA, lsZ, lsN])
         refine wpAnyX_tc (i := 5) (v := ?_) rfl (by kernel_rfl) (by decide +kernel) (by decide +kernel) (fun _ _ _ h => h) (Or.inl ⟨by rfl, ?_⟩) hs0.out ?_
         rotate_left
         ·(intro w hSw; (try dsimp only at hSw); go_simp; try (with_reducible rfl))
         (try simp only [Act.put, lsA, lsZ, lsN])
         refine wpAnyX_tc (i := 6) (v := ?_) rfl (by kernel_rfl) (by decide +kernel) (by decide +kernel) (fun _ _ _ h => h) (Or.inl ⟨by rfl, ?_⟩) hs0.out ?_
         rotate_left
         ·(intro w hSw; (try dsimp only at hSw); go_simp; try (with_reducible rfl))
         (try simp only [Act.put, lsA, lsZ, lsN])
         refine wpAnyX_tc (i := 7) (v := ?_) rfl (by kernel_rfl) (by decide +kernel) (by decide +kernel) (fun _ _ _ h => h) (Or.inl ⟨by rfl, ?_⟩) hs0.out ?_
         rotate_left
         ·(intro w hSw; (try dsimp only at hSw); go_simp; try (with_reducible rfl))
         (try simp only [Act.put, lsA, lsZ, lsN])
         refine wpAnyX_tc (i := 8) (v := ?_) rfl (by kernel_rfl) (by decide +kernel) (by decide +kernel) (fun _ _ _ h => h) (Or.inl ⟨by rfl, ?_⟩) hs0.out ?_
         rotate_left
         ·(intro w hSw; (try dsimp only at hSw); go_simp; try (with_reducible rfl))
         (try simp only [Act.put, lsA, lsZ, lsN])
         refine wpAnyX_tc (i := 9) (v := ?_) rfl (by kernel_rfl) (by decide +kernel) (by decide +kernel) (fun _ _ _ h => h) (Or.inl ⟨by rfl, ?_⟩) hs0.out ?_
         rotate_left
         ·(intro w hSw; (try dsimp only at hSw); go_simp; try (with_reducible rfl))
         (try simp only [Act.put, lsA, lsZ, lsN])
         refine wpAnyX_tc (i := 10) (v := ?_) rfl (by kernel_rfl) (by decide +kernel) (by decide +kernel) (fun _ _ _ h => h) (Or.inl ⟨by rfl, ?_⟩) hs0.out ?_
         rotate_left
         ·(intro w hSw; (try dsimp only at hSw); go_simp; try (with_reducible rfl))
         (try simp only [Act.put, lsA, lsZ, lsN])
         refine wpAnyX_tc (i := 11) (v := ?_) rfl (by kernel_rfl) (by decide +kernel) (by decide +kernel) (fun _ _ _ h => h) (Or.inl ⟨by rfl, ?_⟩) hs0.out ?_
         rotate_left
         ·(intro w hSw; (try dsimp only at hSw); go_simp; try (with_reducible rfl))
         (try simp only [Act.put, lsA, lsZ, lsN])
         refine wpAnyX_tc (i := 12) (v := ?_) rfl (by kernel_rfl) (by decide +kernel) (by decide +kernel) (fun _ _ _ h => h) (Or.inl ⟨by rfl, ?_⟩) hs0.out ?_
         rotate_left
         ·(intro w hSw; (try dsimp only at hSw); go_simp; try (with_reducible rfl))
         (try simp only [Act.put, lsA, lsZ, lsN])
         refine wpAnyX_tc (i := 13) (v := ?_) rfl (by kernel_rfl) (by decide +kernel) (by decide +kernel) (fun _ _ _ h => h) (Or.inl ⟨by rfl, ?_⟩) hs0.out ?_
         rotate_left
         ·(intro w hSw; (try dsimp only at hSw); go_simp; try (with_reducible rfl))
         (try simp only [Act.put, lsA, lsZ, lsN])
         refine wpAnyX_tc (i := 14) (v := ?_) rfl (by kernel_rfl) (by decide +kernel) (by decide +kernel) (fun _ _ _ h => h) (Or.inl ⟨by rfl, ?_⟩) hs0.out ?_
         rotate_left
         ·(intro w hSw; (try dsimp only at hSw); go_simp; try (with_reducible rfl))
         (try simp only [Act.put, lsA, lsZ, lsN])
         refine wpAnyX_tc (i := 15) (v := ?_) rfl (by kernel_rfl) (by decide +kernel) (by decide +kernel) (fun _ _ _ h => h) (Or.inl ⟨by rfl, ?_⟩) hs0.out ?_
         rotate_left
         ·(intro w hSw; (try dsimp only at hSw); go_simp; try (with_reducible rfl))
         (try simp only [Act.put, lsA, lsZ, lsN])
         refine wpAnyX_one (j := 16) (by decide +kernel) rfl (fun K' hK => ?_)
         refine step_callX rfl 73 #[.pointer (some ⟨w1.heap.size, 0, none⟩), .int .i64 (2 * s2 + s1 - 1)] _ (run_wint (v0 := .pointer (some ⟨w1.heap.size, 0, none⟩)) (v1 := .int .i64 (2 * s2 + s1 - 1)) (by rfl) (by rfl) (by rw [<- HWR.out]; rfl) _) (ev_int HWd.out (2 * s2 + s1 - 1) (by omega) (by omega) HB2.out) ?_
         rintro e w5 ⟨rfl, hv, ho⟩
         have V5 : Hid (EV w1 w1.heap.size ((P ++ C.enc 10 vl) ++ (C.enc 10 (vr.length : Int) ++ (vr.take (j + 1)).flatMap encY)) w5) := (by rw [<- HN2.out, HEY.out]; exact hv)
         have B5 : Hid (w5.heap[wk.heap.size]? = some (.cells #[.int .i64 vl, .slice vra vr.length vrc, .int .i64 vp] 72)) := ho.blk _ _ _ HBx.out (by decide) (by have := HWL.out; omega)
         clear hv ho
         refine ⟨_, rfl, hK.out _ _ (HSY.out w5 V5.out.bel B5.out) ?_⟩
         clear hK K'
         (try simp only [Act.put, lsA, lsZ, lsN])
         refine wpAnyX_done (by decide +kernel) ?_
         clear hs0
         go_wp2
         go_roundw
         case rel => exact ⟨j + 1, by omega, by go_num, V5.out, B5.out⟩
         case measure => simp [intOf]; omega
        ·obtain rfl : j = vr.length := by omega
         have V6 : Hid (EV w1 w1.heap.size (P ++ C.enc 10 vl ++ encL encY vr) wr) := by rw [List.take_length] at hV; exact hV
         have HB6 : Hid ((P ++ C.enc 10 vl ++ encL encY vr).length <= 100000000000) := by
          have := HLB.out
          show _ <= _
          simp only [encL, List.length_append]
          omega
         clear hV HW hBx
         go_wp2_with (go_at_call 75; refine (ev_sg V6.out vp (by omega) (by omega) HB6.out).mono ?_; rintro e w6 ⟨rfl, hv, ho⟩; have V7 : Hid (EV w1 w1.heap.size P2 w6) := (by show EV _ _ _ _; rw [<- HN.out]; simpa [encP, List.append_assoc] using hv); clear hv ho)
         go_roundw
         case rel => exact ⟨k + 1, by omega, by go_num, by rw [hP2]; exact V7.out⟩
         case measure => simp [intOf]; omega
      ·obtain rfl : k = g.ps.length := by omega
       have E6 : Hid (EV w1 w1.heap.size ([] ++ encL encS g.ts ++ encL encS g.ns ++ C.enc 10 g.start ++ encL encP g.ps) wr) := by rw [List.take_length] at hV; exact hV
       have hb6 : ([] ++ encL encS g.ts ++ encL encS g.ns ++ C.enc 10 g.start ++ encL encP g.ps).length <= 100000000000 := by simp only [List.nil_append, List.length_append]; omega
       have y4 := (HX.out wr E6.out.bel).g4
       clear hV HV hk hlt
       go_wp2_with (go_at_call 73; refine (ev_int E6.out (g.ls.length : Int) (by omega) (by omega) hb6).mono ?_; rintro e w7 ⟨rfl, hv, ho⟩; have E7 : Hid (EV w1 w1.heap.size ([] ++ encL encS g.ts ++ encL encS g.ns ++ C.enc 10 g.start ++ encL encP g.ps ++ (C.enc 10 (g.ls.length : Int) ++ (g.ls.take 0).flatMap encV)) w7) := (by show EV _ _ _ _; simpa using hv); clear hv ho y4)
       go_loopw [11] (fun z wr => ∃ k : Nat, k <= g.ls.length /\ z = .int .i64 k /\ EV w1 w1.heap.size ([] ++ encL encS g.ts ++ encL encS g.ns ++ C.enc 10 g.start ++ encL encP g.ps ++ (C.enc 10 (g.ls.length : Int) ++ (g.ls.take k).flatMap encV)) wr) (fun z _ => g.ls.length - (intOf z).toNat)
       case atStart => exact ⟨0, Nat.zero_le _, rfl, E7.out⟩
       case round =>
        clear E7
        obtain ⟨k, hk, rfl, hV⟩ := hrel
        have HV : Hid (EV w1 w1.heap.size ([] ++ encL encS g.ts ++ encL encS g.ns ++ C.enc 10 g.start ++ encL encP g.ps ++ (C.enc 10 (g.ls.length : Int) ++ (g.ls.take k).flatMap encV)) wr) := hV
        have x0 := (HX.out wr hV.bel).g4
        by_cases hlt : k < g.ls.length
        ·have klt : (k : Int) < (g.ls.length : Int) := by omega
         have HLV : Hid (∀ wr, Below w1.heap.size w1 wr -> ∃ lb lo, g.la = some ⟨lb, lo, none⟩ /\ wr.cell? ⟨lb, lo + k * 2, none⟩ = some (.int .i64 (g.ls.getD k .none).assoc) /\ wr.cell? ⟨lb, lo + k * 2 + 1, none⟩ = some (.slice (g.ls.getD k .none).ta (g.ls.getD k .none).terms.length (g.ls.getD k .none).tc)) := fun wr hb => by
          obtain ⟨lb, lo, e, _, hc⟩ := (HA.out wr hb).l.cells (by intro e; rw [e] at hlt; simp at hlt)
          exact ⟨lb, lo, e, hc k hlt⟩
         have hmem : g.ls.getD k .none ∈ g.ls := by simp [List.getD, hlt]
         have HOK : Hid (OkV (g.ls.getD k .none)) := OG.out.ls _ hmem
         have HRW : Hid (∀ wr, Below w1.heap.size w1 wr -> InRow wr (g.ls.getD k .none).ta (g.ls.getD k .none).terms) := fun wr hb => (HA.out wr hb).l.rows _ hmem
         have HN : Hid (([] ++ encL encS g.ts ++ encL encS g.ns ++ C.enc 10 g.start ++ encL encP g.ps ++ (C.enc 10 (g.ls.length : Int) ++ (g.ls.take k).flatMap encV)) ++ encV (g.ls.getD k .none) = ([] ++ encL encS g.ts ++ encL encS g.ns ++ C.enc 10 g.start ++ encL encP g.ps ++ (C.enc 10 (g.ls.length : Int) ++ (g.ls.take (k + 1)).flatMap encV))) := enc_take encV g.ls k .none hlt _
         have hB : (([] ++ encL encS g.ts ++ encL encS g.ns ++ C.enc 10 g.start ++ encL encP g.ps ++ (C.enc 10 (g.ls.length : Int) ++ (g.ls.take k).flatMap encV)) ++ encV (g.ls.getD k .none)).length <= 16777216 := by
          rw [HN.out]
          have h1 := flat_le encV g.ls (k + 1)
          have h2 : (encL encV g.ls).length = (C.enc 10 (g.ls.length : Int)).length + (g.ls.flatMap encV).length := by rw [encL, List.length_append]
          simp only [List.nil_append, List.length_append]
          omega
         obtain ⟨lb, lo, hab, hc0, hc1⟩ := HLV.out wr hV.bel
         have HLV2 : Hid (∀ wr, Below w1.heap.size w1 wr -> wr.cell? ⟨w.heap.size, 4, none⟩ = some (.slice (some ⟨lb, lo, none⟩) g.ls.length g.lc) /\ wr.cell? ⟨lb, lo + k * 2, none⟩ = some (.int .i64 (g.ls.getD k .none).assoc) /\ wr.cell? ⟨lb, lo + k * 2 + 1, none⟩ = some (.slice (g.ls.getD k .none).ta (g.ls.getD k .none).terms.length (g.ls.getD k .none).tc)) := fun wr hb => by
          obtain ⟨lb', lo', e, d0, d1⟩ := HLV.out wr hb
          rw [hab] at e
          simp only [Option.some.injEq, Addr.mk.injEq, and_true] at e
          obtain ⟨rfl, rfl⟩ := e
          exact ⟨by rw [<- hab]; exact (HX.out wr hb).g4, d0, d1⟩
         rw [hab] at x0
         clear hmem hV HLV hab
         generalize hP : ([] ++ encL encS g.ts ++ encL encS g.ns ++ C.enc 10 g.start ++ encL encP g.ps ++ (C.enc 10 (g.ls.length : Int) ++ (g.ls.take k).flatMap encV)) = P at *
         generalize hP2 : ([] ++ encL encS g.ts ++ encL encS g.ns ++ C.enc 10 g.start ++ encL encP g.ps ++ (C.enc 10 (g.ls.length : Int) ++ (g.ls.take (k + 1)).flatMap encV)) = P2 at *
         generalize g.ls.getD k .none = x at *
         obtain ⟨va, vta, vtc, vt⟩ := x
         simp only at hc0 hc1
         have hvl := HOK.out.l
         simp only at hvl
         have hva := HOK.out.h0
         simp only at hva
         have HLB : Hid (P.length + (C.enc 10 va).length + (C.enc 10 (vt.length : Int)).length + (vt.flatMap encI).length <= 16777216) := by
          show _ <= _
          simp only [encV, encL, List.length_append] at hB
          omega
         have GI1 : Hid True := trivial
         go_wp2_with (first
          | (go_at_call 73; guard_hyp GI1 : Hid True; refine (ev_int HV.out va hva.1 (by omega) (by have := HLB.out; omega)).mono ?_; rintro e w3 ⟨rfl, hv, ho⟩; have V3 : Hid (EV w1 w1.heap.size (P ++ C.enc 10 va) w3) := hv; clear GI1 hv ho x0 hc0 hc1; obtain ⟨x0, hc0, hc1⟩ := HLV2.out w3 V3.out.bel)
          | (go_at_call 73; refine (ev_int V3.out (vt.length : Int) (by omega) (by omega) (by have := HLB.out; simp only [List.length_append]; omega)).mono ?_; rintro e w4 ⟨rfl, hv, ho⟩; have V4 : Hid (EV w1 w1.heap.size ((P ++ C.enc 10 va) ++ (C.enc 10 (vt.length : Int) ++ (vt.take 0).flatMap encI)) w4) := (by show EV _ _ _ _; simpa using hv); clear hv ho x0 hc0 hc1))
         go_loopw [12] (fun z wr => ∃ j : Nat, j <= vt.length /\ z = .int .i64 j /\ EV w1 w1.heap.size ((P ++ C.enc 10 va) ++ (C.enc 10 (vt.length : Int) ++ (vt.take j).flatMap encI)) wr) (fun z _ => vt.length - (intOf z).toNat)
         case atStart => exact ⟨0, Nat.zero_le _, rfl, V4.out⟩
         case round =>
          clear V3 V4
          obtain ⟨j, hj, rfl, hV⟩ := hrel
          have HW : Hid (EV w1 w1.heap.size ((P ++ C.enc 10 va) ++ (C.enc 10 (vt.length : Int) ++ (vt.take j).flatMap encI)) wr) := hV
          obtain ⟨x0, hc0, hc1⟩ := HLV2.out wr hV.bel
          by_cases hjt : j < vt.length
          ·have jlt : (j : Int) < (vt.length : Int) := by omega
           obtain ⟨b, off, hab2, hc⟩ := int_at (HRW.out wr hV.bel) (by intro e; rw [e] at hjt; simp at hjt)
           have hcj := hc j hjt
           have hz := HOK.out.z (vt.getD j 0) (by simp [List.getD, hjt])
           have HN2 : Hid ((P ++ C.enc 10 va) ++ (C.enc 10 (vt.length : Int) ++ (vt.take j).flatMap encI) ++ encI (vt.getD j 0) = (P ++ C.enc 10 va) ++ (C.enc 10 (vt.length : Int) ++ (vt.take (j + 1)).flatMap encI)) := enc_take encI vt j 0 hjt _
           have HB2 : Hid (((P ++ C.enc 10 va) ++ (C.enc 10 (vt.length : Int) ++ (vt.take j).flatMap encI)).length <= 100000000000) := by
            have h1 := flat_le encI vt j
            have := HLB.out
            show _ <= _
            simp only [List.length_append]
            omega
           rw [hab2] at hc1
           clear hc hV hab2
           generalize vt.getD j 0 = s at *
           go_wp2_with (go_at_call 73; refine (ev_int HW.out s hz.1 hz.2 HB2.out).mono ?_; rintro e w5 ⟨rfl, hv, ho⟩; have V5 : Hid (EV w1 w1.heap.size ((P ++ C.enc 10 va) ++ (C.enc 10 (vt.length : Int) ++ (vt.take (j + 1)).flatMap encI)) w5) := (by rw [<- HN2.out]; exact hv); clear hv ho)
           go_roundw
           case rel => exact ⟨j + 1, by omega, by go_num, V5.out⟩
           case measure => simp [intOf]; omega
          ·obtain rfl : j = vt.length := by omega
           have V6 : Hid (EV w1 w1.heap.size P2 wr) := by
            show EV _ _ _ _
            rw [<- HN.out]
            rw [List.take_length] at hV
            simpa [encV, encL, List.append_assoc] using hV
           clear hV HW
           go_wp2
           go_roundw
           case rel => exact ⟨k + 1, by omega, by go_num, by rw [hP2]; exact V6.out⟩
           case measure => simp [intOf]; omega
        ·obtain rfl : k = g.ls.length := by omega
         have E9 : Hid (EV w1 w1.heap.size ([] ++ encL encS g.ts ++ encL encS g.ns ++ C.enc 10 g.start ++ encL encP g.ps ++ encL encV g.ls) wr) := by rw [List.take_length] at hV; exact hV
         clear hV HV hk hlt
         have GS1 : Hid True := trivial
         go_wp2_with (first
          | (go_at_call 76; obtain ⟨v, hv, hk⟩ := E9.out.v; refine (C.vbytes_ok hv (Nat.le_trans HEL.out (by omega))).mono ?_; rintro e w8 ⟨bo, bN, bc, rfl, ho, hb⟩; have OB : Hid (C.Own w8 (.slice bo bN bc) ([] ++ encL encS g.ts ++ encL encS g.ns ++ C.enc 10 g.start ++ encL encP g.ps ++ encL encV g.ls)) := ho; have W8 : Hid (Below w.heap.size w w8) := (BW.out.trans (E9.out.bel.mono BW.out.size)).trans (hb.mono (Nat.le_trans BW.out.size E9.out.bel.size)); clear hv hk ho hb)
          | (go_at_call 77; obtain ⟨l1, l2, l3⟩ := C.own_len OB.out; refine (C.refseal_any 1 bo bN bc _ w8 l1 (by omega) (by omega) HEL.out l2 l3).mono ?_; rintro e w9 ⟨gg, N, c, rfl, ho, hgg, hb⟩; have HGG : Hid (w.heap.size <= gg) := Nat.le_trans W8.out.size hgg; have OF : Hid (C.Own w9 (.slice (some ⟨gg, 0, none⟩) N c) (C.frame 1 (encG g))) := (by rw [HF.out]; exact ho); have W9 : Hid (Below w.heap.size w w9) := W8.out.trans (hb.mono W8.out.size); clear l1 l2 l3 ho hb hgg))
         go_ret2
         exact ⟨_, _, _, rfl, OF.out, HGG.out, W9.out⟩
theorem renc_no (g : GV) (w : World) (h : GAt 140737488355328 w g) (er at_ : Int) (hE : checkG g (checkF g.ts g.ns) = (er, at_)) (h0 : er ≠ 0) :
  Calls Tryz.prog 20 #[g.val] w fun e w' => e = .returned (.tuple #[.slice none 0 0, .int .i64 er]) /\ Below w.heap.size w w' := by
 have hM : (checkG g (checkF g.ts g.ns)).1 = er := by rw [hE]
 have HMY : Hid (∀ w0, GAt 140737488355328 w0 g -> Calls Tryz.prog 27 #[g.val] w0 fun e w' => e = .returned (.int .i64 er) /\ Below w0.heap.size w0 w') := fun w0 hw => by have := refmay_G g w0 hw; rw [hM] at this; exact this
 have t0 : (er != 0) = true := by simpa using h0
 have HA0 : Hid (∀ wr, Below w.heap.size w wr -> GAt 140737488355328 wr g) := fun wr hb => h.later hb
 clear h hE hM h0
 go_enter Tryz.func20, Tryz.ntmps20
 go_wp2_with (go_at_call 27; refine (HMY.out _ (HA0.out _ (below_alloc _ _))).mono ?_; rintro e w1 ⟨rfl, b1⟩; have BW : Hid (Below w.heap.size w w1) := (below_alloc w _).trans (b1.mono (below_alloc w _).size); clear b1)
 go_ret2
 exact ⟨rfl, BW.out⟩
def encB (g : GV) (er : Int) : List Int := if er = 0 then C.frame 1 (encG g) else []
theorem encB_len {g : GV} {er at_ : Int} (hE : checkG g (checkF g.ts g.ns) = (er, at_)) : (encB g er).length <= 140737488355328 := by
 unfold encB
 by_cases h0 : er = 0
 ·subst h0
  have ok : OkC g := OkC.of (by rw [hE])
  have l1 := gframe_len 1 (encG g)
  have l2 := ok.enc_len
  rw [if_pos rfl]; omega
 ·rw [if_neg h0]; simp
def KR (B : Nat) (w : World) (a : Option Addr) (xs : List Int) : Prop := ∀ w2 : World, w.heap.size <= w2.heap.size -> (∀ k, B <= k -> k < w.heap.size -> w2.heap[k]? = w.heap[k]?) -> C.RowAt w2 a xs
theorem KR.next {B : Nat} {w w' : World} {a : Option Addr} {xs : List Int} (h : KR B w a xs) (hs : w.heap.size <= w'.heap.size) (hk : ∀ k, B <= k -> k < w.heap.size -> w'.heap[k]? = w.heap[k]?) : KR B w' a xs := fun w2 h2 k2 => h w2 (Nat.le_trans hs h2) fun k k1 k3 => (k2 k k1 (Nat.lt_of_lt_of_le k3 hs)).trans (hk k k1 k3)
theorem KR.later {B : Nat} {w w' : World} {a : Option Addr} {xs : List Int} (h : KR B w a xs) (hb : Below w.heap.size w w') : KR B w' a xs := h.next hb.size fun k _ hk => hb.block k hk
theorem KR.mono {B B' : Nat} {w : World} {a : Option Addr} {xs : List Int} (h : KR B w a xs) (hB : B' <= B) : KR B' w a xs := fun w2 hs hk => h w2 hs fun k k1 k2 => hk k (Nat.le_trans hB k1) k2
theorem kr_nil (B : Nat) (w : World) : KR B w none [] := fun w2 _ _ => C.RowAt.nil _ _
theorem kr_own {B : Nat} {w : World} {gg N c : Nat} {xs : List Int} (h : C.Own w (.slice (some ⟨gg, 0, none⟩) N c) xs) (hg : B <= gg) : KR B w (some ⟨gg, 0, none⟩) xs /\ N = xs.length := by
 obtain ⟨l1, _, _⟩ := C.own_len h
 refine ⟨fun w2 hs hk => ?_, l1⟩
 have ho : C.Own w2 (.slice (some ⟨gg, 0, none⟩) N c) xs := h.kept fun k e => by
  have hlt := h.lt k e
  simp [Value.ownBlock] at e
  subst e
  exact hk _ hg hlt
 exact (C.own_len ho).2.1
theorem enc_anyB (g x : GV) (w : World) (hs : SameG g x) (h : GAt 140737488355328 w x) (hpc : x.ps.length <= x.pc) (hm : C.Magic w) (er at_ : Int) (hE : checkG g (checkF g.ts g.ns) = (er, at_)) :
  Calls Tryz.prog 19 #[x.val] w fun e w' => ∃ a N c, e = .returned (.tuple #[.slice a N c, .int .i64 er]) /\ Below w.heap.size w w' /\ KR w.heap.size w' a (encB g er) /\ N = (encB g er).length := by
 have hX := (same_check hs).trans hE
 by_cases h0 : er = 0
 ·subst h0
  have ok : OkC x := OkC.of (by rw [hX])
  have eb : encB g 0 = C.frame 1 (encG x) := by
   have e : x.core = g.core := by simp only [GV.core, hs.ts, hs.ns, hs.start, hs.ps, hs.ls]
   rw [encB, if_pos rfl, <- encG_core, <- encG_core, e]
  rw [eb]
  refine (encode_ok x w (h.ok ok) hpc at_ hX ok.okg hm).mono ?_
  rintro e w' ⟨gg, N, c, rfl, ho, hg, hb⟩
  obtain ⟨k1, k2⟩ := kr_own ho hg
  exact ⟨_, _, _, rfl, hb, k1, k2⟩
 ·refine (encode_no x w h hpc er at_ hX h0).mono ?_
  rintro e w' ⟨rfl, hb⟩
  have eb : encB g er = [] := by rw [encB, if_neg h0]
  rw [eb]
  exact ⟨_, _, _, rfl, hb, kr_nil _ _, rfl⟩
theorem renc_anyB (g : GV) (w : World) (h : GAt 140737488355328 w g) (er at_ : Int) (hE : checkG g (checkF g.ts g.ns) = (er, at_)) :
  Calls Tryz.prog 20 #[g.val] w fun e w' => ∃ a N c, e = .returned (.tuple #[.slice a N c, .int .i64 er]) /\ Below w.heap.size w w' /\ KR w.heap.size w' a (encB g er) /\ N = (encB g er).length := by
 by_cases h0 : er = 0
 ·subst h0
  have ok : OkC g := OkC.of (by rw [hE])
  have eb : encB g 0 = C.frame 1 (encG g) := by rw [encB, if_pos rfl]
  rw [eb]
  refine (renc_ok g w (h.ok ok) at_ hE ok).mono ?_
  rintro e w' ⟨gg, N, c, rfl, ho, hg, hb⟩
  obtain ⟨k1, k2⟩ := kr_own ho hg
  exact ⟨_, _, _, rfl, hb, k1, k2⟩
 ·refine (renc_no g w h er at_ hE h0).mono ?_
  rintro e w' ⟨rfl, hb⟩
  have eb : encB g er = [] := by rw [encB, if_neg h0]
  rw [eb]
  exact ⟨_, _, _, rfl, hb, kr_nil _ _, rfl⟩
end Go.Proofs.YtmkakdfdfdcncaaGreatDoor
