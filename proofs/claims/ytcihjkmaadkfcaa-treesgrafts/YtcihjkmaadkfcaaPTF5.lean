import Derived.Test.YtcihjkmaadkfcaaPTW7
namespace Go.Proofs.Ytcihjkmaadkfcaa
set_option linter.unusedVariables false
open Go.RowKit
def enA (D : List EV) : List (Nat × Nat × TV) := (D.filter (·.en)).map fun x => (x.p, x.q, x.t)
theorem enA_app (D R : List EV) : enA (D ++ R) = enA D ++ enA R := by simp [enA]
theorem enA_in (p q : Nat) (t : TV) : enA [⟨true, p, q, t⟩] = [(p, q, t)] := rfl
theorem enA_out (p q : Nat) (t : TV) : enA [⟨false, p, q, t⟩] = [] := rfl
theorem enA_enE (D : List EV) : (enA D).map (·.2.2) = enE D := by simp [enA, enE, Function.comp_def]
theorem enA_len (D : List EV) : (enA D).length = (enE D).length := by rw [<- enA_enE, List.length_map]
abbrev ptBox (v : Option Addr) : Obj := .cells #[.pointer v] 54
structure FSt (w0 : World) (b : Nat) (place : Int) (D : List EV) (w : World) : Prop where
 bel : Below w0.heap.size w0 w
 yn : w0.heap.size <= b
 pl : w.heap[b]? = some (iBox place)
 fd : w.heap[b + 1]? = some (ptBox none)
 nb : w.heap[b + 2]? = some (iBox ((enE D).length : Int))
 no : ∀ i : Nat, i < (enE D).length -> place ≠ (i : Int)
theorem FSt.still {w0 : World} {b : Nat} {place : Int} {D : List EV} {w w' : World} (h : FSt w0 b place D w) (hn : NoStp w0.heap.size w w') : FSt w0 b place D w' :=
 ⟨hn.bel h.bel, h.yn, hn.keep _ _ h.pl (fun ⟨_, s⟩ => not_stp (by decide) s), hn.keep _ _ h.fd (fun ⟨_, s⟩ => not_stp (by decide) s), hn.keep _ _ h.nb (fun ⟨_, s⟩ => not_stp (by decide) s), h.no⟩
structure FFn (w0 : World) (b : Nat) (place : Int) (A : List (Nat × Nat × TV)) (w : World) : Prop where
 bel : Below w0.heap.size w0 w
 fd : ∃ (i : Nat) (x : Nat × Nat × TV), place = (i : Int) /\ A[i]? = some x /\ w.heap[b + 1]? = some (ptBox (some ⟨x.1, x.2.1, none⟩))
theorem ent_find1 : EntW 29 := fun _ _ => by kernel_rfl
theorem onStp_box {N : Nat} {wb w : World} {b : Nat} {cs : Array Value} {ty : TypeId} {v : Value} (h : OnStp N wb w) (hb : w.heap[b]? = some (.cells cs ty)) (ht : (ty == 70) = false) : OnStp N wb (w.setCell ⟨b, 0, none⟩ v) := by
 refine ⟨?_, fun j o hj hN hs => ?_⟩
 ·have h3 : (w.setCell ⟨b, 0, none⟩ v).heap.size = w.heap.size := by simp [World.setCell]
  have := h.size
  omega
 ·have h1 := h.keep j o hj hN hs
  rw [Below.heap_setCell _ _ _ _ (show j ≠ b from fun e => ?_), h1]
  subst e
  rw [hb] at h1
  cases h1
  exact not_stp ht hs
set_option linter.unusedSimpArgs false in
set_option maxRecDepth 100000 in
set_option maxHeartbeats 4000000 in
theorem find1_W (w0 : World) (b : Nat) (place : Int) (D : List EV) (p q : Nat) (t : TV) (w : World) (h : FSt w0 b place D w) (hl : D.length <= 200000000) :
  Calls Try.prog 29 #[.pointer (some ⟨p, q, none⟩), .pointer (some ⟨b + 2, 0, none⟩), .pointer (some ⟨b, 0, none⟩), .pointer (some ⟨b + 1, 0, none⟩)] w fun e w' => ∃ r, e = .returned (.bool r) /\ OnStp w0.heap.size w w' /\ (r = true -> FSt w0 b place (D ++ [⟨true, p, q, t⟩]) w') /\ (r = false -> Below w0.heap.size w0 w' /\ place = ((enA D).length : Int) /\ w'.heap[b + 1]? = some (ptBox (some ⟨p, q, none⟩))) := by
 obtain ⟨c0, -⟩ := ib_cell h.pl
 obtain ⟨c1, f1⟩ := ib_cell h.nb
 have c2 : w.cell? ⟨b + 1, 0, none⟩ = some (.pointer none) := (cellq_any h.fd).trans rfl
 have f2 : w.frozen? ⟨b + 1, 0, none⟩ = false := by simp [World.frozen?, h.fd]
 have hn : (enE D).length <= 200000000 := Nat.le_trans (enE_len D) hl
 have HH : Hid (FSt w0 b place D w) := h
 have HA : Hid ((enA D).length = (enE D).length) := enA_len D
 have HE : Hid ((enE (D ++ [⟨true, p, q, t⟩])).length = (enE D).length + 1) := by rw [enE_app, enE_in]; simp [Hid]
 have NB : Hid (w.heap[b + 2]? = some (iBox ((enE D).length : Int)) /\ ∀ i : Nat, i < (enE D).length -> place ≠ (i : Int)) := ⟨h.nb, h.no⟩
 clear h hl
 generalize (enE D).length = n at *
 by_cases he : (n : Int) = place
 ·subst he
  have FB : Hid ((w.setCell ⟨b + 1, 0, none⟩ (.pointer (some ⟨p, q, none⟩))).heap[b + 2]? = some (iBox (n : Int)) /\ (w.setCell ⟨b + 1, 0, none⟩ (.pointer (some ⟨p, q, none⟩))).heap[b + 1]? = some (ptBox (some ⟨p, q, none⟩))) := ⟨ib_ne NB.out.1 (by omega) _, heap_setCell_same w (b + 1) 0 _ _ _ HH.out.fd⟩
  go_enter Try.func29, Try.ntmps29
  go_upto_region 3 with fail
  obtain ⟨w2, hw2⟩ : ∃ w2, w2 = w.setCell ⟨b + 1, 0, none⟩ (.pointer (some ⟨p, q, none⟩)) := ⟨_, rfl⟩
  have O2 : Hid (OnStp w0.heap.size w w2 /\ Below w0.heap.size w0 w2) := by rw [hw2]; exact ⟨onStp_box (OnStp.refl _ _) HH.out.fd (by decide), HH.out.bel.setCell (p := ⟨b + 1, 0, none⟩) (Nat.le_trans HH.out.yn (Nat.le_add_right _ _)) _⟩
  rw [<- hw2] at FB ⊢
  clear hw2 c0 c1 c2 f1 f2
  obtain ⟨c1, f1⟩ := ib_cell FB.out.1
  have FC : Hid ((w2.setCell ⟨b + 2, 0, none⟩ (.int .i64 ((n : Int) + 1))).heap[b + 1]? = some (ptBox (some ⟨p, q, none⟩)) /\ OnStp w0.heap.size w (w2.setCell ⟨b + 2, 0, none⟩ (.int .i64 ((n : Int) + 1))) /\ Below w0.heap.size w0 (w2.setCell ⟨b + 2, 0, none⟩ (.int .i64 ((n : Int) + 1)))) := ⟨ib_ne FB.out.2 (by omega) _, onStp_box O2.out.1 FB.out.1 (by decide), O2.out.2.setCell (p := ⟨b + 2, 0, none⟩) (Nat.le_trans HH.out.yn (Nat.le_add_right _ _)) _⟩
  go_upto_region 4 with fail
  obtain ⟨w3, hw3⟩ : ∃ w3, w3 = w2.setCell ⟨b + 2, 0, none⟩ (.int .i64 ((n : Int) + 1)) := ⟨_, rfl⟩
  rw [<- hw3] at FC ⊢
  clear hw3 c1 f1
  have c2 : w3.cell? ⟨b + 1, 0, none⟩ = some (.pointer (some ⟨p, q, none⟩)) := (cellq_any FC.out.1).trans rfl
  go_wp2
  go_ret
  exact ⟨false, rfl, FC.out.2.1, (fun q => by cases q), fun _ => ⟨FC.out.2.2, by rw [HA.out], FC.out.1⟩⟩
 ·have t1 : ((n : Int) == place) = false := by simpa using he
  have FC : Hid (OnStp w0.heap.size w (w.setCell ⟨b + 2, 0, none⟩ (.int .i64 ((n : Int) + 1))) /\ FSt w0 b place (D ++ [⟨true, p, q, t⟩]) (w.setCell ⟨b + 2, 0, none⟩ (.int .i64 ((n : Int) + 1))) /\ (w.setCell ⟨b + 2, 0, none⟩ (.int .i64 ((n : Int) + 1))).heap[b + 1]? = some (ptBox none)) := by
   refine ⟨onStp_box (OnStp.refl _ _) NB.out.1 (by decide), ⟨HH.out.bel.setCell (p := ⟨b + 2, 0, none⟩) (Nat.le_trans HH.out.yn (Nat.le_add_right _ _)) _, HH.out.yn, ib_ne HH.out.pl (by omega) _, ib_ne HH.out.fd (by omega) _, ?_, fun i hi => ?_⟩, ib_ne HH.out.fd (by omega) _⟩
   ·rw [HE.out]
    have := ib_set NB.out.1 ((n : Int) + 1)
    exact this
   ·rw [HE.out] at hi
    by_cases hin : i = n
    ·subst hin; exact fun e => he e.symm
    ·exact NB.out.2 i (by omega)
  clear he
  go_enter Try.func29, Try.ntmps29
  go_upto_region 4 with fail
  obtain ⟨w3, hw3⟩ : ∃ w3, w3 = w.setCell ⟨b + 2, 0, none⟩ (.int .i64 ((n : Int) + 1)) := ⟨_, rfl⟩
  rw [<- hw3] at FC ⊢
  clear hw3 c0 c1 f1 c2 f2
  have c2 : w3.cell? ⟨b + 1, 0, none⟩ = some (.pointer none) := (cellq_any FC.out.2.2).trans rfl
  go_wp2
  go_ret
  exact ⟨true, rfl, FC.out.1, fun _ => FC.out.2.1, fun q => by cases q⟩
def fdU (p q : Nat) (t : TV) (place : Int) : Option Addr := if 0 <= place then ((enA (evT p q t))[place.toNat]?).map fun x => ⟨x.1, x.2.1, none⟩ else none
theorem enA_evT_len (p q : Nat) (t : TV) : (enA (evT p q t)).length = szT t := by rw [enA_len, ev_pre, preT_len]
set_option linter.unusedSimpArgs false in
set_option maxRecDepth 100000 in
set_option maxHeartbeats 4000000 in
theorem find_W (p0 q0 : Nat) (t : TV) (place : Int) (w : World) (hb : TBx w p0 q0 t) (ht : TAt w t) (hsz : szT t <= 100000000) : Calls Try.prog 21 #[.pointer (some ⟨p0, q0, none⟩), .int .i64 place] w fun e w' => e = .returned (.pointer (fdU p0 q0 t place)) /\ Below w.heap.size w w' := by
 have S0 : Hid (FSt w w.heap.size place [] (((w.alloc (iBox place)).alloc (ptBox none)).alloc (iBox 0))) := by
  have k : ∀ (j : Nat) (o o' : Obj) (v : World), v.heap[j]? = some o -> (v.alloc o').heap[j]? = some o := fun j o o' v h => ((below_alloc v o').block j (lt_of_block h)).trans h
  have e : ∀ (v : World) (o : Obj), (v.alloc o).heap.size = v.heap.size + 1 := fun v o => by simp
  have bl : ∀ (v : World) (o : Obj), Below w.heap.size w v -> Below w.heap.size w (v.alloc o) := fun v o h => h.trans ((below_alloc v o).mono h.size)
  refine ⟨bl _ _ (bl _ _ (bl _ _ (Below.refl _ _))), Nat.le_refl _, k _ _ _ _ (k _ _ _ _ (heap_alloc_new _ _)), ?_, ?_, fun i hi => by simp [enE] at hi⟩
  ·have := heap_alloc_new (w.alloc (iBox place)) (ptBox none)
   rw [e] at this
   exact k _ _ _ _ this
  ·have := heap_alloc_new ((w.alloc (iBox place)).alloc (ptBox none)) (iBox 0)
   rw [e, e] at this
   exact this
 have CW : Hid (∀ w1, FSt w w.heap.size place [] w1 -> Calls Try.prog 23 #[.pointer (some ⟨p0, q0, none⟩), fnV 29 #[.pointer (some ⟨w.heap.size + 1 + 1, 0, none⟩), .pointer (some ⟨w.heap.size, 0, none⟩), .pointer (some ⟨w.heap.size + 1, 0, none⟩)]] w1 fun e w' => e = .returned (.tuple #[]) /\ Below w.heap.size w w' /\ w'.cell? ⟨w.heap.size + 1, 0, none⟩ = some (.pointer (fdU p0 q0 t place))) := fun w1 h1 => by
  refine (walk_R (St := FSt w w.heap.size place) (Fin := FFn w w.heap.size place (enA (evT p0 q0 t))) ⟨ent_find1, hb, ht, hsz, fun D w w' h hn => h.still hn, fun D w h => h.bel, fun D p q t' R hD hT w1 h1 => ?_, fun D p q t' R w1 _ h1 => ?_⟩ _ h1).mono ?_
  ·refine (find1_W w w.heap.size place D p q t' w1 h1 (by have := ev_bound hD hsz; omega)).mono fun e w' ⟨r, e1, e2, e3, e4⟩ => ⟨r, e1, e2, e3, fun hr => ?_⟩
   obtain ⟨a1, a2, a3⟩ := e4 hr
   refine ⟨a1, (enA D).length, (p, q, t'), a2, ?_, a3⟩
   rw [<- hD, show D ++ (⟨true, p, q, t'⟩ : EV) :: R = D ++ [⟨true, p, q, t'⟩] ++ R by simp, enA_app, enA_app, enA_in]
   simp
  ·exact ⟨h1.bel, h1.yn, h1.pl, h1.fd, by rw [enE_app, enE_out, List.append_nil]; exact h1.nb, by rw [enE_app, enE_out, List.append_nil]; exact h1.no⟩
  ·rintro e w' ⟨e1, e2 | e2⟩
   ·refine ⟨e1, e2.bel, ?_⟩
    have : fdU p0 q0 t place = none := by
     unfold fdU
     by_cases h0 : 0 <= place
     ·rw [if_pos h0]
      have hno := e2.no place.toNat
      have : ¬ place.toNat < (enE (evT p0 q0 t)).length := fun h => hno h (by omega)
      rw [<- enA_len] at this
      rw [List.getElem?_eq_none (by omega)]
      rfl
     ·rw [if_neg h0]
    rw [this]
    exact (cellq_any e2.fd).trans rfl
   ·obtain ⟨i, x, a1, a2, a3⟩ := e2.fd
    refine ⟨e1, e2.bel, ?_⟩
    have : fdU p0 q0 t place = some ⟨x.1, x.2.1, none⟩ := by
     unfold fdU
     rw [a1, if_pos (by omega), Int.toNat_natCast, a2]
     rfl
    rw [this]
    exact (cellq_any a3).trans rfl
 clear hb ht hsz
 generalize fdU p0 q0 t place = r at *
 go_enter Try.func21, Try.ntmps21
 go_upto_region 3 with fail
 refine wp_world (fun w' => FSt w w.heap.size place [] w') S0.out fun w1 h1 => ?_
 have H1 : Hid (FSt w w.heap.size place [] w1) := h1
 clear h1 S0
 go_wp2_with (go_at_call 23; refine (CW.out _ H1.out).mono ?_; rintro e w2 ⟨rfl, b2, c2⟩; have R : Hid (Below w.heap.size w w2) := b2; clear b2)
 go_ret
 exact ⟨rfl, R.out⟩
end Go.Proofs.Ytcihjkmaadkfcaa
