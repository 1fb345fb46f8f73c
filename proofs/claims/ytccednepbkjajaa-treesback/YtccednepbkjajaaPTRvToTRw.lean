import Derived.Test.YtccednepbkjajaaPTD3ToTSm
import Derived.Test.YtccednepbkjajaaPGT6
import Derived.Shelf.SlicesG.Reverse
import Derived.Test.YtccednepbkjajaaPTW5ToTW6
namespace Go.Proofs.Ytccednepbkjajaa
set_option linter.unusedVariables false
open Go.RowKit Go.Shelf Go.Sort
theorem flat_fm {α : Type} [Inhabited α] {enc : α -> List Value} {k : Nat} (hk0 : 0 < k) (hk : ∀ x, (enc x).length = k) (r : List α) : flatK enc k r.toArray = (r.flatMap enc).toArray := by
 apply Array.ext
 ·simp [flatK, fm_len hk r]
 ·intro t h1 h2
  have ht : t < r.length * k := by simpa [flatK] using h1
  have hd : t / k < r.length := Nat.div_lt_of_lt_mul (by rw [Nat.mul_comm]; exact ht)
  have hm : t % k < k := Nat.mod_lt _ hk0
  have q := fm_get hk r (t / k) hd (t % k) hm
  rw [Nat.div_add_mod'] at q
  obtain ⟨_, q'⟩ := List.getElem?_eq_some_iff.1 (q.trans (List.getElem?_eq_getElem (by rw [hk]; exact hm)))
  simp only [flatK, List.getElem_toArray, Array.getElem_map, Array.getElem_range]
  rw [q', getElem!_pos r.toArray (t / k) (by simpa using hd), getElem!_pos (enc r.toArray[t / k]) (t % k) (by rw [hk]; exact hm)]
  simp
theorem heap_putO {w : World} {b n o : Nat} {F : Array Value} {cur : Array Value} {t : TypeId} {fz : Nat × Nat} (hb : w.heap[b]? = some (.cells cur t fz)) : (putRow id (Sort.ahead w n) b o F).heap[b]? = some (.cells (putCells id o F cur) t fz) := by
 simp [putRow, mapBlock, Sort.ahead, Array.getElem?_modify, hb, onCells]
theorem heap_putO_ne {w : World} {b n o j : Nat} {F : Array Value} (h : j ≠ b) : (putRow id (Sort.ahead w n) b o F).heap[j]? = w.heap[j]? := by
 simp [putRow, mapBlock, Sort.ahead, Array.getElem?_modify, Ne.symm h]
theorem put_in {w : World} {b n o : Nat} {F : Array Value} {cur : Array Value} {t : TypeId} {fz : Nat × Nat} (hb : w.heap[b]? = some (.cells cur t fz)) (i : Nat) (hi : i < F.size) (hc : o + i < cur.size) : (putRow id (Sort.ahead w n) b o F).cell? ⟨b, o + i, none⟩ = F[i]? := by
 rw [cellq_any (heap_putO hb)]
 simp only [putCells, Array.getElem?_mapIdx]
 rw [Array.getElem?_eq_getElem hc, Array.getElem?_eq_getElem hi, Option.map_some, if_pos ⟨by omega, by omega⟩, Nat.add_sub_cancel_left, getElem!_pos F i hi]
 rfl
theorem put_out {w : World} {b n o : Nat} {F : Array Value} {cur : Array Value} {t : TypeId} {fz : Nat × Nat} (hb : w.heap[b]? = some (.cells cur t fz)) (x : Nat) (hx : x < o ∨ o + F.size <= x) : (putRow id (Sort.ahead w n) b o F).cell? ⟨b, x, none⟩ = w.cell? ⟨b, x, none⟩ := by
 rw [cellq_any (heap_putO hb), cellq_any hb]
 simp only [putCells, Array.getElem?_mapIdx]
 have h : ¬ (o <= x /\ x < o + F.size) := by omega
 simp only [if_neg h]
 cases cur[x]? <;> rfl
theorem put_size (w : World) (b n o : Nat) (F : Array Value) : (putRow id (Sort.ahead w n) b o F).heap.size = w.heap.size := by simp [putRow, mapBlock, Sort.ahead]
theorem put_below {w0 w : World} {N b n o : Nat} {F : Array Value} (h : Below N w0 w) (hb : N <= b) (hN : N <= w.heap.size) : Below N w0 (putRow id (Sort.ahead w n) b o F) := by
 have hg : w.grownBy (putRow id (Sort.ahead w n) b o F) (some b) := ⟨rfl, rfl, rfl, by rw [put_size]; exact Nat.le_refl _, fun k _ hk => heap_putO_ne fun e => hk (by rw [e])⟩
 exact h.grown hg hN (fun k e => by cases e; exact hb)
def trD (t : TV) : Int × Int × ByteArray × Option Addr × Nat × Nat := (t.prod, t.kind, t.tx, t.ka, t.kids.length, t.kc)
def trE (q : Int × Int × ByteArray × Option Addr × Nat × Nat) : List Value := [.int .i64 q.1, .int .i64 q.2.1, .string q.2.2.1, .slice q.2.2.2.1 q.2.2.2.2.1 q.2.2.2.2.2]
theorem trE_D (l : List TV) : (l.map trD).flatMap trE = l.flatMap trCells := by
 rw [List.flatMap_map]; rfl
def revRenT : Ren := ⟨fun _ => 53, fun x => if x = 22 then 29 else if x = 23 then 31 else x, fun x => x⟩
theorem rev_laysT : SlLaysE0.n35 Try.prog revRenT := {
 mixed := by kernel_rfl
 f35 := ⟨Try.f53.name, by decide, by kernel_rfl⟩
 t0 := by kernel_rfl
 a0 := fun _ => by kernel_rfl
 z0 := fun _ => by kernel_rfl
 v0 := fun _ => by kernel_rfl
 t3 := by kernel_rfl
 a3 := fun _ => by kernel_rfl
 z3 := fun _ => by kernel_rfl
 v3 := fun _ => by kernel_rfl
 t4 := by kernel_rfl
 a4 := fun _ => by kernel_rfl
 z4 := fun _ => by kernel_rfl
 v4 := fun _ => by kernel_rfl
 t22 := by kernel_rfl
 a22 := fun _ => by kernel_rfl
 z22 := fun _ => by kernel_rfl
 v22 := fun _ => by kernel_rfl }
theorem rev_tree (b o c : Nat) (l : List TV) (w : World) (hl : l.length <= 1000000000) (hc : ∀ i u, (l.flatMap trCells)[i]? = some u -> w.cell? ⟨b, o + i, none⟩ = some u) {cs : Array Value} (hb : w.heap[b]? = some (.cells cs 31)) :
  Calls Try.prog 53 #[.slice (some ⟨b, o, none⟩) l.length c] w fun e w' => e = .returned (.tuple #[]) /\ w'.heap.size = w.heap.size /\ (∀ j, j ≠ b -> w'.heap[j]? = w.heap[j]?) /\ (∃ cs, w'.heap[b]? = some (.cells cs 31)) /\ (∀ i u, (l.reverse.flatMap trCells)[i]? = some u -> w'.cell? ⟨b, o + i, none⟩ = some u) /\ (∀ x, x < o ∨ o + l.length * 4 <= x -> w'.cell? ⟨b, x, none⟩ = w.cell? ⟨b, x, none⟩) /\ ∀ N w0, Below N w0 w -> N <= b -> N <= w.heap.size -> Below N w0 w' := by
 have hk : ∀ x, (trE x).length = 4 := fun _ => rfl
 have hfl := flat_fm (by decide) hk (l.map trD)
 have hfr := flat_fm (by decide) hk (l.map trD).reverse
 rw [trE_D] at hfl
 rw [<- List.map_reverse, trE_D] at hfr
 have hH : HoldsK trE 4 w b o (l.map trD).toArray := by
  unfold HoldsK
  rw [hfl]
  intro j hj
  have hj' : j < (l.flatMap trCells).length := by simpa using hj
  refine ⟨?_, by simp [World.frozen?, hb]⟩
  rw [hc j _ (List.getElem?_eq_getElem hj'), getElem!_pos _ j hj]
  rfl
 have hcall := AnyQ.slices_Reverse rev_laysT 4 (fun _ => by kernel_rfl) (fun _ => by kernel_rfl) trE hk (fun x v hv => by simp [trE] at hv; rcases hv with rfl | rfl | rfl | rfl <;> rfl) b o c (l.map trD).toArray w hH (by simp; omega)
 change Calls Try.prog 53 _ _ _ at hcall
 simp only [List.reverse_toArray, List.size_toArray, List.length_map] at hcall
 refine hcall.mono ?_
 rintro e w' ⟨rfl, n, rfl⟩
 unfold putRowK
 rw [<- List.map_reverse, hfr]
 have hsz : ((l.reverse.flatMap trCells).toArray).size = l.length * 4 := by
  rw [List.size_toArray, fm_len (k := 4) (fun _ => rfl), List.length_reverse]
 refine ⟨rfl, put_size _ _ _ _ _, fun j hj => heap_putO_ne hj, ⟨_, heap_putO hb⟩, fun i u hu => ?_, fun x hx => put_out hb x (by rw [hsz]; exact hx), fun N w0 h1 h2 h3 => put_below h1 h2 h3⟩
 have hi : i < (l.reverse.flatMap trCells).length := (List.getElem?_eq_some_iff.1 hu).1
 have hi2 : i < (l.flatMap trCells).length := by rw [fm_len (k := 4) (fun _ => rfl)] at hi ⊢; simpa using hi
 have hcs : o + i < cs.size := by
  have := hc i _ (List.getElem?_eq_getElem hi2)
  rw [cellq_any hb] at this
  exact (Array.getElem?_eq_some_iff.1 this).1
 rw [put_in hb i (by simpa using hi) hcs, List.getElem?_toArray, hu]
theorem rev_treen (ao : Option Addr) (c : Nat) (w : World) : Calls Try.prog 53 #[.slice ao 0 c] w fun e w' => e = .returned (.tuple #[]) /\ w' = w := by
 go_enter Try.func53, Try.ntmps53
 go_wp2
 go_loopw [2, 3] (fun i j wr => i = .int .i64 0 /\ j = .int .i64 (-1) /\ wr = w) (fun _ _ _ => 0)
 case atStart => exact ⟨rfl, rfl, rfl⟩
 case round =>
  obtain ⟨rfl, rfl, rfl⟩ := hrel
  go_wp2
  go_end0
  exact ⟨rfl, rfl⟩
open Go.RowKit
def inC8 (z : Int) : List Value := [.int .i64 z]
theorem rkInt8 : RK 3 36 1 inC8 := by
 refine ⟨Try.underlying36, ?_, by decide, fun _ => rfl, fun x u hu => ?_⟩
 ·have h : (Try.prog.info? 3).map (fun i => (i.zero, i.size, i.bytes)) = some (some (.int .i64 0), 1, 8) := by kernel_rfl
  cases e : Try.prog.info? 3 with
  | none => rw [e] at h; cases h
  | some i =>
   rw [e] at h
   simp at h
   exact ⟨i, _, rfl, h.1, h.2.1, by rw [h.2.2]; decide, rfl⟩
 ·simp [inC8] at hu
  subst hu
  rfl
abbrev ILo := RO 3 1 inC8
theorem ILo.row {w : World} {a : Option Addr} {n c : Nat} {l : List Int} (h : ILo w (.slice a n c) l) : n = l.length /\ InRow w a l := by
 obtain ⟨a', c', e, _⟩ := RO.len h
 simp only [Value.slice.injEq] at e
 obtain ⟨rfl, rfl, rfl⟩ := e
 refine ⟨rfl, fun hne => ?_⟩
 obtain ⟨b, cb, e, -, -⟩ := RO.cell (f := inC8) (k := 1) (fun _ => rfl) h (List.length_pos_iff.2 hne)
 simp only [Value.slice.injEq, true_and] at e
 obtain ⟨rfl, rfl⟩ := e
 refine ⟨b, 0, rfl, h.lt b rfl, fun i hi => ?_⟩
 obtain ⟨b', c', e, _, hc⟩ := RO.cell (f := inC8) (k := 1) (fun _ => rfl) h hi
 simp only [Value.slice.injEq, Option.some.injEq, Addr.mk.injEq, true_and, and_true] at e
 obtain ⟨rfl, rfl⟩ := e
 have := hc 0 (by omega)
 simp only [inC8, List.getElem?_cons_zero, Nat.mul_one, Nat.add_zero] at this
 rw [Nat.zero_add, this]
 simp [List.getD, hi]
def nodP (l : List TV) : List Int := (l.filter fun t => decide (t.prod ≠ -1)).map (·.prod)
theorem nodP_app (l m : List TV) : nodP (l ++ m) = nodP l ++ nodP m := by simp [nodP]
def adN (L : List Int) (t : TV) : List Int := if t.prod = -1 then L else L ++ [t.prod]
theorem nodP_snoc (l : List TV) (t : TV) : nodP (l ++ [t]) = adN (nodP l) t := by
 rw [nodP_app]
 unfold adN nodP
 by_cases h : t.prod = -1
 ·rw [if_pos h]; simp [h]
 ·rw [if_neg h]; simp [h]
def exE (D : List EV) : List TV := (D.filter fun x => !x.en).map (·.t)
theorem exE_app (D R : List EV) : exE (D ++ R) = exE D ++ exE R := by simp [exE]
theorem exE_in (p q : Nat) (t : TV) : exE [⟨true, p, q, t⟩] = [] := rfl
theorem exE_out (p q : Nat) (t : TV) : exE [⟨false, p, q, t⟩] = [t] := rfl
theorem exE_len (D : List EV) : (exE D).length <= D.length := by
 unfold exE
 rw [List.length_map]
 exact List.length_filter_le _ _
theorem nodP_len (l : List TV) : (nodP l).length <= l.length := by
 unfold nodP
 rw [List.length_map]
 exact List.length_filter_le _ _
def poF : Nat -> TV -> List TV
 | 0, _ => []
 | n + 1, t => (t.kids.flatMap (poF n)) ++ [t]
def posT (t : TV) : List TV := poF (tsz t) t
def posL (l : List TV) : List TV := l.flatMap posT
theorem poF_any : ∀ (n m : Nat) (t : TV), tsz t <= n -> tsz t <= m -> poF n t = poF m t
 | 0, _, t, h, _ => by have := tsz_pos t; omega
 | _ + 1, 0, t, _, h => by have := tsz_pos t; omega
 | n + 1, m + 1, t, h, h' => by
  rw [poF, poF]
  congr 1
  exact fm_congr _ fun k hk => poF_any n m k (by have := kid_lt hk; omega) (by have := kid_lt hk; omega)
theorem posT_eq (t : TV) : posT t = posL t.kids ++ [t] := by
 obtain ⟨n, hn⟩ : ∃ n, tsz t = n + 1 := ⟨tsz t - 1, by have := tsz_pos t; omega⟩
 unfold posT posL
 rw [hn, poF]
 congr 1
 exact fm_congr _ fun k hk => poF_any _ _ k (by have := kid_lt hk; omega) (Nat.le_refl _)
theorem evL_pos (b o : Nat) : ∀ (i : Nat) (l : List TV), (∀ k ∈ l, ∀ p q, exE (evT p q k) = posT k) -> exE (evL (kidF b o i l)) = posL l
 | _, [], _ => rfl
 | i, k :: l, h => by
  rw [kidF, evL_cons, exE_app, h k List.mem_cons_self, evL_pos b o (i + 1) l (fun k' hk => h k' (List.mem_cons_of_mem _ hk))]
  rfl
theorem ev_pos (t : TV) : ∀ p q, exE (evT p q t) = posT t := by
 induction t using TV.ind with
 | _ t ih =>
  intro p q
  rw [evT_eq, <- List.singleton_append, exE_app, exE_app, exE_in, exE_out, List.nil_append, posT_eq]
  unfold kidsA
  rw [evL_pos _ _ _ _ ih]
structure ISt (w0 : World) (yb : Nat) (L : List Int) (w : World) : Prop where
 bel : Below w0.heap.size w0 w
 yn : w0.heap.size <= yb
 bx : ∃ vo, w.heap[yb]? = some (.cells #[vo] 36) /\ ILo w vo L /\ ∀ j, vo.ownBlock = some j -> w0.heap.size <= j
theorem ISt.still {w0 : World} {yb : Nat} {L : List Int} {w w' : World} (h : ISt w0 yb L w) (hn : NoStp w0.heap.size w w') : ISt w0 yb L w' := by
 obtain ⟨vo, h1, h2, h3⟩ := h.bx
 exact ⟨hn.bel h.bel, h.yn, vo, hn.keep _ _ h1 (fun ⟨_, s⟩ => not_stp (by decide) s), h2.noStp hn (by decide), h3⟩
theorem il_ty8 {w : World} {v : Value} {l : List Int} {j : Nat} {cs : Array Value} (h : ILo w v l) (hj : v.ownBlock = some j) (hb : w.heap[j]? = some (.cells cs 36)) : False := by
 rcases h.2 with ⟨rfl, _⟩ | ⟨g, cap, cur, rfl, _, h2, _⟩
 ·simp [Value.ownBlock] at hj
 ·simp [Value.ownBlock] at hj
  subst hj
  rw [h2] at hb
  simp at hb
def inS8 (yb : Nat) (vo : Value) (p q : Nat) (z : Int) (w : World) : Prop := w.cell? ⟨yb, 0, none⟩ = some vo /\ w.cell? ⟨p, q, none⟩ = some (.int .i64 z)
theorem inS8.later {yb : Nat} {vo : Value} {p q : Nat} {z : Int} {w w' : World} (h : inS8 yb vo p q z w) (hb : Below w.heap.size w w') : inS8 yb vo p q z w' := ⟨cellW hb h.1, cellW hb h.2⟩
theorem ent_left1 : EntW 22 := fun _ _ => by kernel_rfl
theorem ent_right1 : EntW 26 := fun _ _ => by kernel_rfl
theorem ent_goOn : EntW 25 := fun _ _ => by kernel_rfl
theorem goOn_W (p q : Nat) (w : World) : Calls Try.prog 25 #[.pointer (some ⟨p, q, none⟩)] w fun e w' => e = .returned (.bool true) /\ w' = w := by
 go_enter Try.func25, Try.ntmps25
 go_wp2
 go_ret
 exact ⟨rfl, rfl⟩
set_option linter.unusedSimpArgs false in
set_option maxRecDepth 100000 in
set_option maxHeartbeats 4000000 in
theorem left1_W (w0 : World) (yb : Nat) (L : List Int) (p q : Nat) (t : TV) (w : World) (h : ISt w0 yb L w) (ht : TBx w0 p q t) (hl : L.length <= 200000000) :
  Calls Try.prog 22 #[.pointer (some ⟨p, q, none⟩), .pointer (some ⟨yb, 0, none⟩)] w fun e w' => e = .returned (.bool true) /\ OnStp w0.heap.size w w' /\ ISt w0 yb (adN L t) w' := by
 have htw := ht.later h.bel
 have CI : Hid (Calls Try.prog 23 #[.pointer (some ⟨p, q, none⟩)] w fun e w' => e = .returned (.bool (t.prod == -1)) /\ w' = w) := isLeaf_W p q t w htw
 have HH : Hid (ISt w0 yb L w) := h
 obtain ⟨vo, hb, ho, hw⟩ := h.bx
 have HB : Hid (w.heap[yb]? = some (.cells #[vo] 36) /\ ILo w vo L /\ ∀ j, vo.ownBlock = some j -> w0.heap.size <= j) := ⟨hb, ho, hw⟩
 by_cases hp : t.prod = -1
 ·have t1 : (t.prod == -1) = true := by simpa using hp
  rw [t1] at CI
  have e0 : adN L t = L := by unfold adN; rw [if_pos hp]
  have R : Hid (ISt w0 yb (adN L t) w) := by rw [e0]; exact h
  clear e0
  clear h htw hb ho hw t1 hp
  go_enter Try.func22, Try.ntmps22
  go_wp2_with (go_at_call 23; refine CI.out.mono ?_; rintro e w1 ⟨rfl, rfl⟩)
  go_ret
  exact ⟨rfl, OnStp.refl _ _, R.out⟩
 ·have t1 : (t.prod == -1) = false := by simpa using hp
  rw [t1] at CI
  have k1 := htw.c0
  have y0 : w.cell? ⟨yb, 0, none⟩ = some vo := (cellq_any hb).trans rfl
  obtain ⟨z, hz⟩ : ∃ z, t.prod = z := ⟨_, rfl⟩
  have e0 : adN L t = L ++ [z] := by unfold adN; rw [if_neg hp, hz]
  rw [hz] at k1
  have OA : Hid (∀ wd, Below w.heap.size w wd -> ILo (wd.alloc (.cells #[.int .i64 z] 3)) vo L) := fun wd hd => (ho.later hd).later (below_alloc _ _)
  have NX : Hid (∀ wd : World, ∀ j u, (inC8 z)[j]? = some u -> (wd.alloc (.cells #[.int .i64 z] 3)).cell? ⟨wd.heap.size, j, none⟩ = some u) := fun wd j u hu => by
   rw [cellq_any (heap_alloc_new wd (.cells #[.int .i64 z] 3)), <- hu]
   simp [inC8]
  have LN : Hid (L.length <= 1000000000) := by show _ <= _; omega
  have YL : Hid (∀ wd w5 a5 n5 c5, Below w.heap.size w wd -> ILo w5 (.slice a5 n5 c5) (L ++ [z]) -> Grew (wd.alloc (.cells #[.int .i64 z] 3)) w5 vo (.slice a5 n5 c5) -> inS8 yb vo p q z w5 /\ w5.cell? ⟨yb, 0, none⟩ = some vo /\ w5.frozen? ⟨yb, 0, none⟩ = false /\ OnStp w0.heap.size w (w5.setCell ⟨yb, 0, none⟩ (.slice a5 n5 c5)) /\ ISt w0 yb (adN L t) (w5.setCell ⟨yb, 0, none⟩ (.slice a5 n5 c5))) := fun wd w5 a5 n5 c5 hd ho5 hg5 => by
   have hbA : Below w.heap.size w (wd.alloc (.cells #[.int .i64 z] 3)) := hd.trans ((below_alloc _ _).mono hd.size)
   have hne : ∀ j, vo.ownBlock = some j -> j ≠ yb := fun j hj e => by
    subst e
    exact il_ty8 ho hj hb
   have hbl : ∀ (j : Nat) (o : Obj), w.heap[j]? = some o -> (some j ≠ vo.ownBlock) -> w5.heap[j]? = some o := fun j o hj hn => by
    rw [hg5.grown.block j (Nat.lt_of_lt_of_le (lt_of_block hj) hbA.size) hn, hbA.block j (lt_of_block hj), hj]
   have hyb : w5.heap[yb]? = some (.cells #[vo] 36) := hbl yb _ hb (fun e => hne yb e.symm rfl)
   have hset := heap_setCell_same w5 yb 0 _ _ (.slice a5 n5 c5) hyb
   have hB5 : Below w0.heap.size w0 w5 := hg5.below (HH.out.bel.trans (hbA.mono HH.out.bel.size)) (Nat.le_refl _) hw
   have hBs : Below w0.heap.size w0 (w5.setCell ⟨yb, 0, none⟩ (.slice a5 n5 c5)) := hB5.setCell (p := ⟨yb, 0, none⟩) HH.out.yn _
   have ht5 := ht.later hB5
   have hob : ∀ j, (Value.slice a5 n5 c5).ownBlock = some j -> j ≠ yb /\ w0.heap.size <= j := fun j hj => by
    refine ⟨fun e => ?_, hg5.own (n := w0.heap.size) (Nat.le_trans HH.out.bel.size (Nat.le_trans hbA.size (Nat.le_refl _))) hw j hj⟩
    subst e
    exact il_ty8 ho5 hj hyb
   have k0 := ht5.c0
   rw [hz] at k0
   refine ⟨⟨(cellq_any hyb).trans rfl, k0⟩, (cellq_any hyb).trans rfl, by simp [World.frozen?, hyb], ⟨?_, fun j o hj hN hs => ?_⟩, hBs, HH.out.yn, .slice a5 n5 c5, hset, ?_, fun j hj => (hob j hj).2⟩
   ·have h1 := hbA.size
    have h2 := hg5.grown.size
    have h3 : (w5.setCell ⟨yb, 0, none⟩ (.slice a5 n5 c5)).heap.size = w5.heap.size := by simp [World.setCell]
    omega
   ·have hjy : j ≠ yb := fun e => by
     subst e
     rw [hb] at hj
     cases hj
     exact not_stp (by decide) hs
    rw [Below.heap_setCell _ _ _ _ (show j ≠ yb from hjy)]
    refine hbl j o hj (fun e => ?_)
    rcases ho.2 with ⟨rfl, _⟩ | ⟨g, cap, cur, rfl, _, h2, _⟩
    ·simp [Value.ownBlock] at e
    ·simp [Value.ownBlock] at e
     subst e
     rw [h2] at hj
     cases hj
     exact not_stp (by decide) hs
   ·rw [e0]
    exact ho5.kept fun j hj => Below.heap_setCell _ _ _ _ (hob j hj).1
  clear h htw hb ho hw t1 e0 hp hz
  go_enter Try.func22, Try.ntmps22
  go_upto_region 2 with (go_at_call 23; refine CI.out.mono ?_; rintro e w1 ⟨rfl, rfl⟩)
  obtain ⟨wd, hwd⟩ : ∃ wd : World, wd = w1.drew := ⟨_, rfl⟩
  have BD : Hid (Below w1.heap.size w1 wd) := by rw [hwd]; exact (Below.refl _ _).drew
  have hs : Hid (inS8 yb vo p q z wd) := ⟨cellW BD.out y0, cellW BD.out k1⟩
  clear y0 k1
  refine wp_region_x (S := SX 7 (fun _ => True) (inS8 yb vo p q z)) (by kernel_rfl) ?_
  rw [<- hwd]
  clear hwd
  refine wpAnyX_take (m := 7) (i := 0) (v := ?_) rfl (by kernel_rfl) (by kernel_rfl) (by decide) (by decide +kernel) (by decide +kernel) (fun _ _ _ h => h) (by kernel_rfl) (Or.inl ⟨by rfl, ?_⟩) (SX.both trivial hs.out) ?_
  rotate_left
  ·(intro w hSw; obtain ⟨_, z0, z1⟩ := hSw; go_simp; try (with_reducible rfl))
  (try simp only [Act.put, List.setIfInBounds_toArray, List.set_cons_zero, List.set_cons_succ])
  refine wpAnyX_take (m := 7) (i := 1) (v := ?_) rfl (by kernel_rfl) (by kernel_rfl) (by decide) (by decide +kernel) (by decide +kernel) (fun _ _ _ h => h) (by kernel_rfl) (Or.inl ⟨by rfl, ?_⟩) (SX.both trivial hs.out) ?_
  rotate_left
  ·(intro w hSw; obtain ⟨_, z0, z1⟩ := hSw; go_simp; try (with_reducible rfl))
  (try simp only [Act.put, List.setIfInBounds_toArray, List.set_cons_zero, List.set_cons_succ])
  refine wpAnyX_take (m := 7) (i := 2) (v := ?_) rfl (by kernel_rfl) (by kernel_rfl) (by decide) (by decide +kernel) (by decide +kernel) (fun _ _ _ h => h) (by kernel_rfl) (Or.inl ⟨by rfl, ?_⟩) (SX.both trivial hs.out) ?_
  rotate_left
  ·(intro w hSw; obtain ⟨_, z0, z1⟩ := hSw; go_simp; try (with_reducible rfl))
  (try simp only [Act.put, List.setIfInBounds_toArray, List.set_cons_zero, List.set_cons_succ])
  refine wpAnyX_take (m := 7) (i := 3) (v := ?_) rfl (by kernel_rfl) (by kernel_rfl) (by decide) (by decide +kernel) (by decide +kernel) (fun _ _ _ h => h) (by kernel_rfl) (Or.inl ⟨by rfl, ?_⟩) (SX.both trivial hs.out) ?_
  rotate_left
  ·(intro w hSw; obtain ⟨_, z0, z1⟩ := hSw; go_simp; try (with_reducible rfl))
  (try simp only [Act.put, List.setIfInBounds_toArray, List.set_cons_zero, List.set_cons_succ])
  refine wpAnyX_take (m := 7) (i := 4) (v := ?_) rfl (by kernel_rfl) (by kernel_rfl) (by decide) (by decide +kernel) (by decide +kernel) (fun _ _ _ h => h) (by kernel_rfl) (Or.inl ⟨by rfl, ?_⟩) (SX.both trivial hs.out) ?_
  rotate_left
  ·(intro w hSw; obtain ⟨_, z0, z1⟩ := hSw; go_simp; try (with_reducible rfl))
  (try simp only [Act.put, List.setIfInBounds_toArray, List.set_cons_zero, List.set_cons_succ])
  refine wpAnyX_one (j := 5) (by decide +kernel) rfl (fun K' hK => ?_)
  go_simp
  have hs2 : Hid (inS8 yb vo p q z (wd.alloc (.cells #[.int .i64 z] 3))) := hs.out.later (below_alloc _ _)
  refine hK.out _ _ (SX.both trivial hs2.out) ?_
  clear hK K'
  (try simp only [Act.put, List.setIfInBounds_toArray, List.set_cons_zero, List.set_cons_succ])
  refine wpAnyX_one (j := 6) (by decide +kernel) rfl (fun K' hK => ?_)
  refine step_ro_append rkInt8 rfl (.tmp 7) (.tmp 12) rfl vo L rfl (OA.out wd BD.out) wd.heap.size 1 z rfl (NX.out wd) LN.out ?_
  intro a5 n5 c5 w5 ho5 hg5
  have W5 := YL.out wd w5 a5 n5 c5 BD.out ho5 hg5
  obtain ⟨q1, q2, q3, q4, q5⟩ := W5
  have Q4 : Hid (OnStp w0.heap.size w1 (w5.setCell ⟨yb, 0, none⟩ (.slice a5 n5 c5)) /\ ISt w0 yb (adN L t) (w5.setCell ⟨yb, 0, none⟩ (.slice a5 n5 c5))) := ⟨q4, q5⟩
  refine hK.out _ _ (SX.both trivial q1) ?_
  clear hK K' q1 q4 q5 ho5 hg5
  (try simp only [Act.put, List.setIfInBounds_toArray, List.set_cons_zero, List.set_cons_succ])
  refine wpAnyX_one (j := 7) (by decide +kernel) rfl (fun K' hK => ?_)
  go_simp
  refine hK.out _ _ (SX.one trivial (by kernel_rfl)) ?_
  clear hK K'
  (try simp only [Act.put, List.setIfInBounds_toArray, List.set_cons_zero, List.set_cons_succ])
  refine wpAnyX_done (by decide +kernel) ?_
  go_wp2
  go_ret
  exact ⟨rfl, Q4.out⟩
set_option linter.unusedSimpArgs false in
set_option maxRecDepth 100000 in
set_option maxHeartbeats 4000000 in
theorem right1_W (w0 : World) (yb : Nat) (L : List Int) (p q : Nat) (t : TV) (w : World) (h : ISt w0 yb L w) (ht : TBx w0 p q t) (hl : L.length <= 200000000) :
  Calls Try.prog 26 #[.pointer (some ⟨p, q, none⟩), .pointer (some ⟨yb, 0, none⟩)] w fun e w' => e = .returned (.tuple #[]) /\ OnStp w0.heap.size w w' /\ ISt w0 yb (adN L t) w' := by
 have htw := ht.later h.bel
 have CI : Hid (Calls Try.prog 23 #[.pointer (some ⟨p, q, none⟩)] w fun e w' => e = .returned (.bool (t.prod == -1)) /\ w' = w) := isLeaf_W p q t w htw
 have HH : Hid (ISt w0 yb L w) := h
 obtain ⟨vo, hb, ho, hw⟩ := h.bx
 have HB : Hid (w.heap[yb]? = some (.cells #[vo] 36) /\ ILo w vo L /\ ∀ j, vo.ownBlock = some j -> w0.heap.size <= j) := ⟨hb, ho, hw⟩
 by_cases hp : t.prod = -1
 ·have t1 : (t.prod == -1) = true := by simpa using hp
  rw [t1] at CI
  have e0 : adN L t = L := by unfold adN; rw [if_pos hp]
  have R : Hid (ISt w0 yb (adN L t) w) := by rw [e0]; exact h
  clear e0
  clear h htw hb ho hw t1 hp
  go_enter Try.func26, Try.ntmps26
  go_wp2_with (go_at_call 23; refine CI.out.mono ?_; rintro e w1 ⟨rfl, rfl⟩)
  refine bodyPost_end (results_none rfl _ _ _) rfl ?_
  exact ⟨rfl, OnStp.refl _ _, R.out⟩
 ·have t1 : (t.prod == -1) = false := by simpa using hp
  rw [t1] at CI
  have k1 := htw.c0
  have y0 : w.cell? ⟨yb, 0, none⟩ = some vo := (cellq_any hb).trans rfl
  obtain ⟨z, hz⟩ : ∃ z, t.prod = z := ⟨_, rfl⟩
  have e0 : adN L t = L ++ [z] := by unfold adN; rw [if_neg hp, hz]
  rw [hz] at k1
  have OA : Hid (∀ wd, Below w.heap.size w wd -> ILo (wd.alloc (.cells #[.int .i64 z] 3)) vo L) := fun wd hd => (ho.later hd).later (below_alloc _ _)
  have NX : Hid (∀ wd : World, ∀ j u, (inC8 z)[j]? = some u -> (wd.alloc (.cells #[.int .i64 z] 3)).cell? ⟨wd.heap.size, j, none⟩ = some u) := fun wd j u hu => by
   rw [cellq_any (heap_alloc_new wd (.cells #[.int .i64 z] 3)), <- hu]
   simp [inC8]
  have LN : Hid (L.length <= 1000000000) := by show _ <= _; omega
  have YL : Hid (∀ wd w5 a5 n5 c5, Below w.heap.size w wd -> ILo w5 (.slice a5 n5 c5) (L ++ [z]) -> Grew (wd.alloc (.cells #[.int .i64 z] 3)) w5 vo (.slice a5 n5 c5) -> inS8 yb vo p q z w5 /\ w5.cell? ⟨yb, 0, none⟩ = some vo /\ w5.frozen? ⟨yb, 0, none⟩ = false /\ OnStp w0.heap.size w (w5.setCell ⟨yb, 0, none⟩ (.slice a5 n5 c5)) /\ ISt w0 yb (adN L t) (w5.setCell ⟨yb, 0, none⟩ (.slice a5 n5 c5))) := fun wd w5 a5 n5 c5 hd ho5 hg5 => by
   have hbA : Below w.heap.size w (wd.alloc (.cells #[.int .i64 z] 3)) := hd.trans ((below_alloc _ _).mono hd.size)
   have hne : ∀ j, vo.ownBlock = some j -> j ≠ yb := fun j hj e => by
    subst e
    exact il_ty8 ho hj hb
   have hbl : ∀ (j : Nat) (o : Obj), w.heap[j]? = some o -> (some j ≠ vo.ownBlock) -> w5.heap[j]? = some o := fun j o hj hn => by
    rw [hg5.grown.block j (Nat.lt_of_lt_of_le (lt_of_block hj) hbA.size) hn, hbA.block j (lt_of_block hj), hj]
   have hyb : w5.heap[yb]? = some (.cells #[vo] 36) := hbl yb _ hb (fun e => hne yb e.symm rfl)
   have hset := heap_setCell_same w5 yb 0 _ _ (.slice a5 n5 c5) hyb
   have hB5 : Below w0.heap.size w0 w5 := hg5.below (HH.out.bel.trans (hbA.mono HH.out.bel.size)) (Nat.le_refl _) hw
   have hBs : Below w0.heap.size w0 (w5.setCell ⟨yb, 0, none⟩ (.slice a5 n5 c5)) := hB5.setCell (p := ⟨yb, 0, none⟩) HH.out.yn _
   have ht5 := ht.later hB5
   have hob : ∀ j, (Value.slice a5 n5 c5).ownBlock = some j -> j ≠ yb /\ w0.heap.size <= j := fun j hj => by
    refine ⟨fun e => ?_, hg5.own (n := w0.heap.size) (Nat.le_trans HH.out.bel.size (Nat.le_trans hbA.size (Nat.le_refl _))) hw j hj⟩
    subst e
    exact il_ty8 ho5 hj hyb
   have k0 := ht5.c0
   rw [hz] at k0
   refine ⟨⟨(cellq_any hyb).trans rfl, k0⟩, (cellq_any hyb).trans rfl, by simp [World.frozen?, hyb], ⟨?_, fun j o hj hN hs => ?_⟩, hBs, HH.out.yn, .slice a5 n5 c5, hset, ?_, fun j hj => (hob j hj).2⟩
   ·have h1 := hbA.size
    have h2 := hg5.grown.size
    have h3 : (w5.setCell ⟨yb, 0, none⟩ (.slice a5 n5 c5)).heap.size = w5.heap.size := by simp [World.setCell]
    omega
   ·have hjy : j ≠ yb := fun e => by
     subst e
     rw [hb] at hj
     cases hj
     exact not_stp (by decide) hs
    rw [Below.heap_setCell _ _ _ _ (show j ≠ yb from hjy)]
    refine hbl j o hj (fun e => ?_)
    rcases ho.2 with ⟨rfl, _⟩ | ⟨g, cap, cur, rfl, _, h2, _⟩
    ·simp [Value.ownBlock] at e
    ·simp [Value.ownBlock] at e
     subst e
     rw [h2] at hj
     cases hj
     exact not_stp (by decide) hs
   ·rw [e0]
    exact ho5.kept fun j hj => Below.heap_setCell _ _ _ _ (hob j hj).1
  clear h htw hb ho hw t1 e0 hp hz
  go_enter Try.func26, Try.ntmps26
  go_upto_region 1 with (go_at_call 23; refine CI.out.mono ?_; rintro e w1 ⟨rfl, rfl⟩)
  obtain ⟨wd, hwd⟩ : ∃ wd : World, wd = w1.drew := ⟨_, rfl⟩
  have BD : Hid (Below w1.heap.size w1 wd) := by rw [hwd]; exact (Below.refl _ _).drew
  have hs : Hid (inS8 yb vo p q z wd) := ⟨cellW BD.out y0, cellW BD.out k1⟩
  clear y0 k1
  refine wp_region_x (S := SX 7 (fun _ => True) (inS8 yb vo p q z)) (by kernel_rfl) ?_
  rw [<- hwd]
  clear hwd
  refine wpAnyX_take (m := 7) (i := 0) (v := ?_) rfl (by kernel_rfl) (by kernel_rfl) (by decide) (by decide +kernel) (by decide +kernel) (fun _ _ _ h => h) (by kernel_rfl) (Or.inl ⟨by rfl, ?_⟩) (SX.both trivial hs.out) ?_
  rotate_left
  ·(intro w hSw; obtain ⟨_, z0, z1⟩ := hSw; go_simp; try (with_reducible rfl))
  (try simp only [Act.put, List.setIfInBounds_toArray, List.set_cons_zero, List.set_cons_succ])
  refine wpAnyX_take (m := 7) (i := 1) (v := ?_) rfl (by kernel_rfl) (by kernel_rfl) (by decide) (by decide +kernel) (by decide +kernel) (fun _ _ _ h => h) (by kernel_rfl) (Or.inl ⟨by rfl, ?_⟩) (SX.both trivial hs.out) ?_
  rotate_left
  ·(intro w hSw; obtain ⟨_, z0, z1⟩ := hSw; go_simp; try (with_reducible rfl))
  (try simp only [Act.put, List.setIfInBounds_toArray, List.set_cons_zero, List.set_cons_succ])
  refine wpAnyX_take (m := 7) (i := 2) (v := ?_) rfl (by kernel_rfl) (by kernel_rfl) (by decide) (by decide +kernel) (by decide +kernel) (fun _ _ _ h => h) (by kernel_rfl) (Or.inl ⟨by rfl, ?_⟩) (SX.both trivial hs.out) ?_
  rotate_left
  ·(intro w hSw; obtain ⟨_, z0, z1⟩ := hSw; go_simp; try (with_reducible rfl))
  (try simp only [Act.put, List.setIfInBounds_toArray, List.set_cons_zero, List.set_cons_succ])
  refine wpAnyX_take (m := 7) (i := 3) (v := ?_) rfl (by kernel_rfl) (by kernel_rfl) (by decide) (by decide +kernel) (by decide +kernel) (fun _ _ _ h => h) (by kernel_rfl) (Or.inl ⟨by rfl, ?_⟩) (SX.both trivial hs.out) ?_
  rotate_left
  ·(intro w hSw; obtain ⟨_, z0, z1⟩ := hSw; go_simp; try (with_reducible rfl))
  (try simp only [Act.put, List.setIfInBounds_toArray, List.set_cons_zero, List.set_cons_succ])
  refine wpAnyX_take (m := 7) (i := 4) (v := ?_) rfl (by kernel_rfl) (by kernel_rfl) (by decide) (by decide +kernel) (by decide +kernel) (fun _ _ _ h => h) (by kernel_rfl) (Or.inl ⟨by rfl, ?_⟩) (SX.both trivial hs.out) ?_
  rotate_left
  ·(intro w hSw; obtain ⟨_, z0, z1⟩ := hSw; go_simp; try (with_reducible rfl))
  (try simp only [Act.put, List.setIfInBounds_toArray, List.set_cons_zero, List.set_cons_succ])
  refine wpAnyX_one (j := 5) (by decide +kernel) rfl (fun K' hK => ?_)
  go_simp
  have hs2 : Hid (inS8 yb vo p q z (wd.alloc (.cells #[.int .i64 z] 3))) := hs.out.later (below_alloc _ _)
  refine hK.out _ _ (SX.both trivial hs2.out) ?_
  clear hK K'
  (try simp only [Act.put, List.setIfInBounds_toArray, List.set_cons_zero, List.set_cons_succ])
  refine wpAnyX_one (j := 6) (by decide +kernel) rfl (fun K' hK => ?_)
  refine step_ro_append rkInt8 rfl (.tmp 6) (.tmp 11) rfl vo L rfl (OA.out wd BD.out) wd.heap.size 1 z rfl (NX.out wd) LN.out ?_
  intro a5 n5 c5 w5 ho5 hg5
  have W5 := YL.out wd w5 a5 n5 c5 BD.out ho5 hg5
  obtain ⟨q1, q2, q3, q4, q5⟩ := W5
  have Q4 : Hid (OnStp w0.heap.size w1 (w5.setCell ⟨yb, 0, none⟩ (.slice a5 n5 c5)) /\ ISt w0 yb (adN L t) (w5.setCell ⟨yb, 0, none⟩ (.slice a5 n5 c5))) := ⟨q4, q5⟩
  refine hK.out _ _ (SX.both trivial q1) ?_
  clear hK K' q1 q4 q5 ho5 hg5
  (try simp only [Act.put, List.setIfInBounds_toArray, List.set_cons_zero, List.set_cons_succ])
  refine wpAnyX_one (j := 7) (by decide +kernel) rfl (fun K' hK => ?_)
  go_simp
  refine hK.out _ _ (SX.one trivial (by kernel_rfl)) ?_
  clear hK K'
  (try simp only [Act.put, List.setIfInBounds_toArray, List.set_cons_zero, List.set_cons_succ])
  refine wpAnyX_done (by decide +kernel) ?_
  go_wp2
  refine bodyPost_end (results_none rfl _ _ _) rfl ?_
  exact ⟨rfl, Q4.out⟩
set_option linter.unusedSimpArgs false in
set_option maxRecDepth 100000 in
set_option maxHeartbeats 4000000 in
theorem left_W (t : TV) (w : World) (ht : TAt w t) (hsz : szT t <= 100000000) : Calls Try.prog 7 #[t.val] w fun e w' => ∃ vo, e = .returned vo /\ ILo w' vo (nodP (preT t)) /\ (∀ j, vo.ownBlock = some j -> w.heap.size <= j) /\ Below w.heap.size w w' := by
 have hz : (w.alloc (tBox t)).heap.size = w.heap.size + 1 := by simp
 have hba : Below w.heap.size w (w.alloc (tBox t)) := below_alloc _ _
 have CW : Hid (Calls Try.prog 21 #[.pointer (some ⟨w.heap.size, 0, none⟩), fnV 22 #[.pointer (some ⟨w.heap.size + 1, 0, none⟩)]] ((w.alloc (tBox t)).alloc (.cells #[.slice none 0 0] 36)) fun e w' => e = .returned (.tuple #[]) /\ ∃ vo, w'.heap[w.heap.size + 1]? = some (.cells #[vo] 36) /\ ILo w' vo (nodP (preT t)) /\ (∀ j, vo.ownBlock = some j -> w.heap.size <= j) /\ Below w.heap.size w w') := by
  refine (walk_R (St := fun D w' => ISt (w.alloc (tBox t)) (w.heap.size + 1) (nodP (enE D)) w') (Fin := fun _ => False) ⟨ent_left1, tbx_new w t, ht.later hba, hsz, fun D w w' h hn => h.still hn, fun D w h => h.bel, fun D p q t' R hD hT w1 h1 => ?_, fun D p q t' R w1 _ h1 => ?_⟩ _ ?_).mono ?_
  ·have h5 := ev_bound hD hsz
   have h6 := nodP_len (enE D)
   have h7 := enE_len D
   exact (left1_W _ _ _ p q t' w1 h1 hT (by omega)).mono fun e w' ⟨e1, e2, e3⟩ => ⟨true, e1, e2, fun _ => by rw [enE_app, enE_in, nodP_snoc]; exact e3, fun q => by cases q⟩
  ·rw [enE_app, enE_out, List.append_nil]
   exact h1
  ·refine ⟨below_alloc _ _, by omega, .slice none 0 0, ?_, RO.nil _, fun j hj => by simp [Value.ownBlock] at hj⟩
   have := heap_alloc_new (w.alloc (tBox t)) (.cells #[.slice none 0 0] 36)
   rwa [hz] at this
  ·rintro e w' ⟨e1, e2 | e2⟩
   ·obtain ⟨vo, a, b, c⟩ := e2.bx
    rw [ev_pre] at b
    exact ⟨e1, vo, a, b, fun j hj => by have := c j hj; omega, hba.trans (e2.bel.mono hba.size)⟩
   ·exact e2.elim
 clear ht hsz hz hba
 go_enter Try.func7, Try.ntmps7
 go_wp2_with (go_at_call 21; refine CW.out.mono ?_; rintro e w1 ⟨rfl, vo, h1, h2, h3, h4⟩; have R : Hid (ILo w1 vo (nodP (preT t)) /\ (∀ j, vo.ownBlock = some j -> w.heap.size <= j) /\ Below w.heap.size w w1) := ⟨h2, h3, h4⟩; have c0 : w1.cell? ⟨w.heap.size + 1, 0, none⟩ = some vo := (cellq_any h1).trans rfl; clear h1 h2 h3 h4)
 go_ret
 exact ⟨vo, rfl, R.out⟩
set_option linter.unusedSimpArgs false in
set_option maxRecDepth 100000 in
set_option maxHeartbeats 4000000 in
theorem right_W (t : TV) (w : World) (ht : TAt w t) (hsz : szT t <= 100000000) : Calls Try.prog 8 #[t.val] w fun e w' => ∃ vo, e = .returned vo /\ ILo w' vo (nodP (posT t)) /\ (∀ j, vo.ownBlock = some j -> w.heap.size <= j) /\ Below w.heap.size w w' := by
 have hz : (w.alloc (tBox t)).heap.size = w.heap.size + 1 := by simp
 have hba : Below w.heap.size w (w.alloc (tBox t)) := below_alloc _ _
 have CW : Hid (Calls Try.prog 24 #[.pointer (some ⟨w.heap.size, 0, none⟩), fnV 25 #[], fnV 26 #[.pointer (some ⟨w.heap.size + 1, 0, none⟩)]] ((w.alloc (tBox t)).alloc (.cells #[.slice none 0 0] 36)) fun e w' => e = .returned (.tuple #[]) /\ ∃ vo, w'.heap[w.heap.size + 1]? = some (.cells #[vo] 36) /\ ILo w' vo (nodP (posT t)) /\ (∀ j, vo.ownBlock = some j -> w.heap.size <= j) /\ Below w.heap.size w w') := by
  refine (walkAround_R (St := fun D w' => ISt (w.alloc (tBox t)) (w.heap.size + 1) (nodP (exE D)) w') (Fin := fun _ => False) ⟨ent_goOn, ent_right1, tbx_new w t, ht.later hba, hsz, fun D w w' h hn => h.still hn, fun D w h => h.bel, fun D p q t' R hD hT w1 h1 => ?_, fun D p q t' R hD hT w1 h1 => ?_⟩ _ ?_).mono ?_
  ·exact (goOn_W p q w1).mono fun e w' ⟨e1, e2⟩ => ⟨true, e1, by rw [e2]; exact OnStp.refl _ _, fun _ => by rw [exE_app, exE_in, List.append_nil, e2]; exact h1, fun q => by cases q⟩
  ·have h5 := ev_bound hD hsz
   have h6 := nodP_len (exE D)
   have h7 := exE_len D
   exact (right1_W _ _ _ p q t' w1 h1 hT (by omega)).mono fun e w' ⟨e1, e2, e3⟩ => ⟨e1, e2, by rw [exE_app, exE_out, nodP_snoc]; exact e3⟩
  ·refine ⟨below_alloc _ _, by omega, .slice none 0 0, ?_, RO.nil _, fun j hj => by simp [Value.ownBlock] at hj⟩
   have := heap_alloc_new (w.alloc (tBox t)) (.cells #[.slice none 0 0] 36)
   rwa [hz] at this
  ·rintro e w' ⟨e1, e2 | e2⟩
   ·obtain ⟨vo, a, b, c⟩ := e2.bx
    rw [ev_pos] at b
    exact ⟨e1, vo, a, b, fun j hj => by have := c j hj; omega, hba.trans (e2.bel.mono hba.size)⟩
   ·exact e2.elim
 clear ht hsz hz hba
 go_enter Try.func8, Try.ntmps8
 go_wp2_with (go_at_call 24; refine CW.out.mono ?_; rintro e w1 ⟨rfl, vo, h1, h2, h3, h4⟩; have R : Hid (ILo w1 vo (nodP (posT t)) /\ (∀ j, vo.ownBlock = some j -> w.heap.size <= j) /\ Below w.heap.size w w1) := ⟨h2, h3, h4⟩; have c0 : w1.cell? ⟨w.heap.size + 1, 0, none⟩ = some vo := (cellq_any h1).trans rfl; clear h1 h2 h3 h4)
 go_ret
 exact ⟨vo, rfl, R.out⟩
theorem infoTokC : ∃ i, Try.prog.info? 28 = some i /\ i.zero = some (.agg #[.int .i64 0, .string ByteArray.empty]) /\ i.size = 2 /\ i.bytes = 24 := by
 have h : (Try.prog.info? 28).map (fun i => (i.zero, i.size, i.bytes)) = some (some (.agg #[.int .i64 0, .string ByteArray.empty]), 2, 24) := by kernel_rfl
 cases e : Try.prog.info? 28 with
 | none => rw [e] at h; cases h
 | some i =>
  rw [e] at h
  simp at h
  exact ⟨i, rfl, h.1, h.2.1, h.2.2⟩
set_option maxRecDepth 100000 in
set_option maxHeartbeats 1000000 in
theorem clone_tok (ao : Option Addr) (n c : Nat) (news : List Value) (w : World) (hl : news.length = n * 2) (hn : n <= 1048576) (hc : news ≠ [] -> ∃ b off, ao = some ⟨b, off, none⟩ /\ b < w.heap.size /\ ∀ j u, news[j]? = some u -> w.cell? ⟨b, off + j, none⟩ = some u) (h1 : ∀ u ∈ news, u.oneCell' = true) :
  Calls Try.prog 69 #[.slice ao n c] w fun e w' => ∃ a' c', e = .returned (.slice a' n c') /\ (n ≠ 0 -> ∃ b, a' = some ⟨b, 0, none⟩ /\ w.heap.size <= b /\ RB w' b 28 news c' 2) /\ n <= c' /\ Below w.heap.size w w' := by
 have hne := fun wx a n c => Lib.run_eql_slice_nil (P := Try.prog) (w := wx) 38 28 a n c 0 0 Try.underlying38
 have HH : Hid (∀ u ∈ news, u.oneCell' = true) := h1
 cases ao with
 | none =>
  have h0 : n = 0 := by
   by_cases e : news = []
   ·subst e; simp at hl; omega
   ·obtain ⟨b, off, e', _⟩ := hc e
    cases e'
  subst h0
  clear hc h1
  go_enter Try.func69, Try.ntmps69
  go_wp2
  go_ret
  exact ⟨none, 0, rfl, fun e => absurd rfl e, Nat.le_refl _, Below.refl _ _⟩
 | some ad =>
  have hcc : Hid (∀ j u, news[j]? = some u -> (w.alloc (.cells #[] 28)).cell? (ad.add j) = some u) := fun j u hu => by
   obtain ⟨b, off, e, hb, hcell⟩ := hc (fun e => by subst e; simp at hu)
   cases e
   rw [add_none]
   exact ((below_alloc w _).cell (p := ⟨b, off + j, none⟩) hb).trans (hcell j u hu)
  obtain ⟨i0, hi, hz0, hz1, hz2⟩ := infoTokC
  clear hc h1
  go_enter Try.func69, Try.ntmps69
  go_wp2_with (at_builtin; refine wpList_append_own_at _ rfl _ _ 38 rfl w.heap.size 28 i0 _ 2 24 Try.underlying38 hi hz0 hz1 hz2 rfl (by decide) _ 0 [] rfl (World.ownsRow_made w #[] 0 (Nat.le_refl _) (Nat.zero_le _) rfl) ad n c news rfl hl hcc.out HH.out (by unfold maxLen; omega) (by omega) (by simp) ?_)
  intro v' w1 hown hgrow hnil _
  go_wp2
  go_ret
  obtain ⟨g, cap, rfl⟩ : ∃ g cap, v' = .slice (some ⟨g, 0, none⟩) n cap := by
   rcases hown.2 with ⟨e, _⟩ | ⟨g, cap, cur, e, _⟩
   ·exact absurd e hnil
   ·exact ⟨g, cap, by simpa using e⟩
  have hown' : w1.ownsRow w.heap.size 28 2 (.slice (some ⟨g, 0, none⟩) n cap) n news := by simpa using hown
  obtain ⟨hr, hb, hcap⟩ := RB.of_own hown'
  exact ⟨_, cap, rfl, fun _ => ⟨g, rfl, hb, hr⟩, hcap, (below_alloc w _).grown hgrow (by simp) (fun k e => by simp [Value.ownBlock] at e; omega)⟩
def tqC (q : Int × ByteArray) : List Value := [.int .i64 q.1, .string q.2]
theorem putCells_id {α : Type} [Inhabited α] (enc : α -> Value) (o : Nat) (d : Array α) (c : Array Value) : putCells enc o d c = putCells id o (d.map enc) c := by
 unfold putCells
 apply Array.ext
 ·simp
 ·intro i h1 h2
  simp only [Array.getElem_mapIdx, Array.size_map]
  by_cases h : o <= i /\ i < o + d.size
  ·rw [if_pos h, if_pos h, getElem!_pos d (i - o) (by omega), getElem!_pos (d.map enc) (i - o) (by simp; omega)]
   simp
  ·rw [if_neg h, if_neg h]
def revRenK : Ren := ⟨fun _ => 70, fun x => if x = 22 then 38 else if x = 23 then 28 else x, fun x => x⟩
theorem rev_laysK : SlLaysE0.n35 Try.prog revRenK := {
 mixed := by kernel_rfl
 f35 := ⟨Try.f70.name, by decide, by kernel_rfl⟩
 t0 := by kernel_rfl
 a0 := fun _ => by kernel_rfl
 z0 := fun _ => by kernel_rfl
 v0 := fun _ => by kernel_rfl
 t3 := by kernel_rfl
 a3 := fun _ => by kernel_rfl
 z3 := fun _ => by kernel_rfl
 v3 := fun _ => by kernel_rfl
 t4 := by kernel_rfl
 a4 := fun _ => by kernel_rfl
 z4 := fun _ => by kernel_rfl
 v4 := fun _ => by kernel_rfl
 t22 := by kernel_rfl
 a22 := fun _ => by kernel_rfl
 z22 := fun _ => by kernel_rfl
 v22 := fun _ => by kernel_rfl }
def revRenI : Ren := ⟨fun _ => 68, fun x => if x = 22 then 36 else if x = 23 then 3 else x, fun x => x⟩
theorem rev_laysI : SlLaysN.n35 Try.prog revRenI := {
 mixed := by kernel_rfl
 f35 := ⟨Try.f68.name, by decide, by kernel_rfl⟩
 t0 := by kernel_rfl
 a0 := fun _ => by kernel_rfl
 z0 := fun _ => by kernel_rfl
 v0 := fun _ => by kernel_rfl
 t3 := by kernel_rfl
 a3 := fun _ => by kernel_rfl
 z3 := fun _ => by kernel_rfl
 v3 := fun _ => by kernel_rfl
 t4 := by kernel_rfl
 a4 := fun _ => by kernel_rfl
 z4 := fun _ => by kernel_rfl
 v4 := fun _ => by kernel_rfl
 t22 := by kernel_rfl
 a22 := fun _ => by kernel_rfl
 z22 := fun _ => by kernel_rfl
 v22 := fun _ => by kernel_rfl
 t23 := by kernel_rfl
 a23 := fun _ => by kernel_rfl
 z23 := fun _ => by kernel_rfl
 v23 := fun _ => by kernel_rfl }
theorem rev_tok {C : Nat} (b c : Nat) (r : List (Int × ByteArray)) (w : World) (hr : r.length <= 1048576) (h : RB w b 28 (r.flatMap tqC) C 2) :
  Calls Try.prog 70 #[.slice (some ⟨b, 0, none⟩) r.length c] w fun e w' => e = .returned (.tuple #[]) /\ RB w' b 28 (r.reverse.flatMap tqC) C 2 /\ Turned w w' b := by
 have hk : ∀ x, (tqC x).length = 2 := fun _ => rfl
 have hfl := flat_fm (by decide) hk r
 have hfr := flat_fm (by decide) hk r.reverse
 have hH : HoldsK tqC 2 w b 0 r.toArray := by
  unfold HoldsK
  rw [hfl]
  exact h.holds
 have hc := AnyQ.slices_Reverse rev_laysK 2 (fun _ => by kernel_rfl) (fun _ => by kernel_rfl) tqC hk (fun x v hv => by simp [tqC] at hv; rcases hv with rfl | rfl <;> rfl) b 0 c r.toArray w hH (by simp; omega)
 change Calls Try.prog 70 _ _ _ at hc
 simp only [List.reverse_toArray, List.size_toArray] at hc
 refine hc.mono ?_
 rintro e w' ⟨rfl, n, rfl⟩
 refine ⟨rfl, ?_, ?_⟩
 ·unfold putRowK
  rw [hfr]
  exact h.put n (by rw [fm_len hk, fm_len hk, List.length_reverse])
 ·exact turned_put w b n _
theorem rev_int8 {C : Nat} (b c : Nat) (r : List Int) (w : World) (hr : r.length <= 1048576) (h : RB w b 3 (r.flatMap inC8) C 1) :
  Calls Try.prog 68 #[.slice (some ⟨b, 0, none⟩) r.length c] w fun e w' => e = .returned (.tuple #[]) /\ RB w' b 3 (r.reverse.flatMap inC8) C 1 /\ Turned w w' b := by
 have em : ∀ l : List Int, l.flatMap inC8 = l.map (Value.int .i64) := fun l => by
  induction l with
  | nil => rfl
  | cons x l ih => rw [List.flatMap_cons, ih]; rfl
 have hH : Holds (Value.int .i64) w b 0 r.toArray := fun j hj => by
  have hj' : j < r.length := by simpa using hj
  refine ⟨?_, h.free _⟩
  rw [em] at h
  rw [Nat.zero_add, h.cell (i := j) (u := .int .i64 r[j]) (by simp [hj']), getElem!_pos r.toArray j hj]
  simp
 have hc := AnyG.slices_Reverse_int rev_laysI b 0 c r w hH (by omega)
 change Calls Try.prog 68 _ _ _ at hc
 refine hc.mono ?_
 rintro e w' ⟨rfl, n, rfl⟩
 have e2 : putRow (Value.int .i64) (Sort.ahead w n) b 0 r.reverse.toArray = putRow id (Sort.ahead w n) b 0 (r.reverse.map (Value.int .i64)).toArray := by
  unfold putRow
  have : putCells (Value.int .i64) 0 r.reverse.toArray = putCells id 0 (r.reverse.map (Value.int .i64)).toArray := by
   funext c
   rw [putCells_id]
   simp
  rw [this]
 rw [e2, <- em]
 exact ⟨rfl, h.put n (by rw [fm_len (k := 1) (fun _ => rfl), fm_len (k := 1) (fun _ => rfl), List.length_reverse]), turned_put w b n _⟩
theorem rev_tokn (ao : Option Addr) (c : Nat) (w : World) : Calls Try.prog 70 #[.slice ao 0 c] w fun e w' => e = .returned (.tuple #[]) /\ w' = w := by
 go_enter Try.func70, Try.ntmps70
 go_wp2
 go_loopw [2, 3] (fun i j wr => i = .int .i64 0 /\ j = .int .i64 (-1) /\ wr = w) (fun _ _ _ => 0)
 case atStart => exact ⟨rfl, rfl, rfl⟩
 case round =>
  obtain ⟨rfl, rfl, rfl⟩ := hrel
  go_wp2
  go_end0
  exact ⟨rfl, rfl⟩
theorem rev_intn (ao : Option Addr) (c : Nat) (w : World) : Calls Try.prog 68 #[.slice ao 0 c] w fun e w' => e = .returned (.tuple #[]) /\ w' = w := by
 go_enter Try.func68, Try.ntmps68
 go_wp2
 go_loopw [2, 3] (fun i j wr => i = .int .i64 0 /\ j = .int .i64 (-1) /\ wr = w) (fun _ _ _ => 0)
 case atStart => exact ⟨rfl, rfl, rfl⟩
 case round =>
  obtain ⟨rfl, rfl, rfl⟩ := hrel
  go_wp2
  go_end0
  exact ⟨rfl, rfl⟩
set_option maxRecDepth 100000 in
set_option maxHeartbeats 2000000 in
theorem turned_int (ao : Option Addr) (c : Nat) (l : List Int) (w : World) (h : InRow w ao l) (hl : l.length <= 1048576) : Calls Try.prog 50 #[.slice ao l.length c] w fun e w' => ∃ a' c', e = .returned (.slice a' l.length c') /\ InRow w' a' l.reverse /\ Below w.heap.size w w' := by
 have CC : Hid (Calls Try.prog 67 #[.slice ao l.length c] w fun e w' => ∃ a' c', e = .returned (.slice a' l.length c') /\ (l.length ≠ 0 -> ∃ b, a' = some ⟨b, 0, none⟩ /\ w.heap.size <= b /\ RB w' b 3 (l.flatMap inC8) c' 1) /\ l.length <= c' /\ Below w.heap.size w w') := by
  refine clone_int ao l.length c (l.flatMap inC8) w (fm_len (k := 1) (fun _ => rfl) l) hl (fun hne => ?_) (fun u hu => ?_)
  ·have hln : l ≠ [] := fun e => by rw [e] at hne; exact hne rfl
   obtain ⟨b, off, e, hb, hc⟩ := h hln
   refine ⟨b, off, e, hb, fun j u hu => ?_⟩
   have hj : j < l.length * 1 := by
    have := (List.getElem?_eq_some_iff.1 hu).1
    rwa [fm_len (k := 1) (fun _ => rfl)] at this
   have hi : j / 1 < l.length := by omega
   have q := fm_get (f := inC8) (k := 1) (fun _ => rfl) l (j / 1) hi (j % 1) (by omega)
   rw [show j / 1 * 1 + j % 1 = j by omega, hu] at q
   have hd : l.getD (j / 1) 0 = l[j / 1] := by simp only [List.getD, List.getElem?_eq_getElem hi, Option.getD_some]
   have h1 := hc (j / 1) hi
   rw [hd] at h1
   have e1 : j / 1 = j := Nat.div_one j
   have e2 : j % 1 = 0 := Nat.mod_one j
   simp only [e1, e2, inC8, List.getElem?_cons_zero] at q h1
   rw [h1, <- q]
  ·obtain ⟨x, _, hx⟩ := List.mem_flatMap.1 hu
   simp [inC8] at hx
   first | (rcases hx with rfl | rfl <;> rfl) | (subst hx; rfl)
 by_cases h0 : l = []
 ·subst h0
  clear h
  have CN : Hid (∀ (ao : Option Addr) (c : Nat) (w : World), Calls Try.prog 68 #[.slice ao 0 c] w fun e w' => e = .returned (.tuple #[]) /\ w' = w) := rev_intn
  simp only [List.length_nil] at *
  go_enter Try.func50, Try.ntmps50
  go_wp2_with (first | (go_at_call 67; refine CC.out.mono ?_; rintro e w1 ⟨a', c', rfl, -, -, b1⟩; have B1 : Hid (Below w.heap.size w w1) := b1; clear b1) | (go_at_call 68; refine (CN.out a' c' w1).mono ?_; rintro e w2 ⟨rfl, q⟩; obtain rfl := q.symm))
  refine bodyPost_ret (v := .slice a' 0 c') (by simp [results, Try.results50, go_sem]) rfl ?_
  exact ⟨a', c', rfl, (fun e => absurd rfl e), B1.out⟩
 ·have hlen : l.length ≠ 0 := fun e => h0 (List.eq_nil_of_length_eq_zero e)
  have CR : Hid (∀ (b c : Nat) (w1 : World), RB w1 b 3 (l.flatMap inC8) c 1 -> w.heap.size <= b -> Below w.heap.size w w1 -> Calls Try.prog 68 #[.slice (some ⟨b, 0, none⟩) l.length c] w1 fun e w' => e = .returned (.tuple #[]) /\ RB w' b 3 (l.reverse.flatMap inC8) c 1 /\ Below w.heap.size w w') := fun b c w1 hr hb hB => (rev_int8 b c l w1 (by omega) hr).mono fun e w' ⟨e1, e2, e3⟩ => ⟨e1, e2, hB.trans (e3.bel _ hB.size hb)⟩
  clear h
  go_enter Try.func50, Try.ntmps50
  go_wp2_with (first | (go_at_call 67; refine CC.out.mono ?_; rintro e w1 ⟨a', c', rfl, h1, -, b1⟩; obtain ⟨b, rfl, hb, hr⟩ := h1 hlen; have B1 : Hid (Below w.heap.size w w1 /\ w.heap.size <= b /\ RB w1 b 3 (l.flatMap inC8) c' 1) := ⟨b1, hb, hr⟩; clear b1 h1 hb hr) | (go_at_call 68; refine (CR.out b c' w1 B1.out.2.2 B1.out.2.1 B1.out.1).mono ?_; rintro e w2 ⟨rfl, h2, b2⟩; have B2 : Hid (RB w2 b 3 (l.reverse.flatMap inC8) c' 1 /\ Below w.heap.size w w2) := ⟨h2, b2⟩; clear h2 b2))
  refine bodyPost_ret (v := .slice (some ⟨b, 0, none⟩) l.length c') (by simp [results, Try.results50, go_sem]) rfl ?_
  refine ⟨_, c', rfl, fun hne => ⟨b, 0, rfl, B2.out.1.lt, fun i hi => ?_⟩, B2.out.2⟩
  have hg := fm_get (f := inC8) (k := 1) (fun _ => rfl) l.reverse i hi
  have hd : l.reverse.getD i 0 = l.reverse[i] := by simp only [List.getD, List.getElem?_eq_getElem hi, Option.getD_some]
  rw [hd]
  have h0' := hg 0 (by omega)
  simp only [Nat.mul_one, Nat.add_zero, inC8, List.getElem?_cons_zero] at h0'
  rw [Nat.zero_add, B2.out.1.cell h0']
set_option maxRecDepth 100000 in
set_option maxHeartbeats 2000000 in
theorem turned_tok (ao : Option Addr) (c : Nat) (l : List (Int × ByteArray)) (w : World) (h : TkRow w ao l) (hl : l.length <= 1048576) : Calls Try.prog 51 #[.slice ao l.length c] w fun e w' => ∃ a' c', e = .returned (.slice a' l.length c') /\ TkRow w' a' l.reverse /\ Below w.heap.size w w' := by
 have CC : Hid (Calls Try.prog 69 #[.slice ao l.length c] w fun e w' => ∃ a' c', e = .returned (.slice a' l.length c') /\ (l.length ≠ 0 -> ∃ b, a' = some ⟨b, 0, none⟩ /\ w.heap.size <= b /\ RB w' b 28 (l.flatMap tqC) c' 2) /\ l.length <= c' /\ Below w.heap.size w w') := by
  refine clone_tok ao l.length c (l.flatMap tqC) w (fm_len (k := 2) (fun _ => rfl) l) hl (fun hne => ?_) (fun u hu => ?_)
  ·have hln : l ≠ [] := fun e => by rw [e] at hne; exact hne rfl
   obtain ⟨b, off, e, hb, hc⟩ := h hln
   refine ⟨b, off, e, hb, fun j u hu => ?_⟩
   have hj : j < l.length * 2 := by
    have := (List.getElem?_eq_some_iff.1 hu).1
    rwa [fm_len (k := 2) (fun _ => rfl)] at this
   have hi : j / 2 < l.length := by omega
   have q := fm_get (f := tqC) (k := 2) (fun _ => rfl) l (j / 2) hi (j % 2) (by omega)
   rw [show j / 2 * 2 + j % 2 = j by omega, hu] at q
   have hd : l.getD (j / 2) (0, ByteArray.empty) = l[j / 2] := by simp only [List.getD, List.getElem?_eq_getElem hi, Option.getD_some]
   have h1 := hc (j / 2) hi
   rw [hd] at h1
   rcases (show j % 2 = 0 ∨ j % 2 = 1 by omega) with e | e
   ·rw [e] at q
    simp only [tqC, List.getElem?_cons_zero] at q
    rw [show off + j = off + j / 2 * 2 by omega, h1.1, <- q]
   ·rw [e] at q
    simp only [tqC, List.getElem?_cons_zero, List.getElem?_cons_succ] at q
    rw [show off + j = off + j / 2 * 2 + 1 by omega, h1.2, <- q]
  ·obtain ⟨x, _, hx⟩ := List.mem_flatMap.1 hu
   simp [tqC] at hx
   first | (rcases hx with rfl | rfl <;> rfl) | (subst hx; rfl)
 by_cases h0 : l = []
 ·subst h0
  clear h
  have CN : Hid (∀ (ao : Option Addr) (c : Nat) (w : World), Calls Try.prog 70 #[.slice ao 0 c] w fun e w' => e = .returned (.tuple #[]) /\ w' = w) := rev_tokn
  simp only [List.length_nil] at *
  go_enter Try.func51, Try.ntmps51
  go_wp2_with (first | (go_at_call 69; refine CC.out.mono ?_; rintro e w1 ⟨a', c', rfl, -, -, b1⟩; have B1 : Hid (Below w.heap.size w w1) := b1; clear b1) | (go_at_call 70; refine (CN.out a' c' w1).mono ?_; rintro e w2 ⟨rfl, q⟩; obtain rfl := q.symm))
  refine bodyPost_ret (v := .slice a' 0 c') (by simp [results, Try.results51, go_sem]) rfl ?_
  exact ⟨a', c', rfl, (fun e => absurd rfl e), B1.out⟩
 ·have hlen : l.length ≠ 0 := fun e => h0 (List.eq_nil_of_length_eq_zero e)
  have CR : Hid (∀ (b c : Nat) (w1 : World), RB w1 b 28 (l.flatMap tqC) c 2 -> w.heap.size <= b -> Below w.heap.size w w1 -> Calls Try.prog 70 #[.slice (some ⟨b, 0, none⟩) l.length c] w1 fun e w' => e = .returned (.tuple #[]) /\ RB w' b 28 (l.reverse.flatMap tqC) c 2 /\ Below w.heap.size w w') := fun b c w1 hr hb hB => (rev_tok b c l w1 (by omega) hr).mono fun e w' ⟨e1, e2, e3⟩ => ⟨e1, e2, hB.trans (e3.bel _ hB.size hb)⟩
  clear h
  go_enter Try.func51, Try.ntmps51
  go_wp2_with (first | (go_at_call 69; refine CC.out.mono ?_; rintro e w1 ⟨a', c', rfl, h1, -, b1⟩; obtain ⟨b, rfl, hb, hr⟩ := h1 hlen; have B1 : Hid (Below w.heap.size w w1 /\ w.heap.size <= b /\ RB w1 b 28 (l.flatMap tqC) c' 2) := ⟨b1, hb, hr⟩; clear b1 h1 hb hr) | (go_at_call 70; refine (CR.out b c' w1 B1.out.2.2 B1.out.2.1 B1.out.1).mono ?_; rintro e w2 ⟨rfl, h2, b2⟩; have B2 : Hid (RB w2 b 28 (l.reverse.flatMap tqC) c' 2 /\ Below w.heap.size w w2) := ⟨h2, b2⟩; clear h2 b2))
  refine bodyPost_ret (v := .slice (some ⟨b, 0, none⟩) l.length c') (by simp [results, Try.results51, go_sem]) rfl ?_
  refine ⟨_, c', rfl, fun hne => ⟨b, 0, rfl, B2.out.1.lt, fun i hi => ?_⟩, B2.out.2⟩
  have hg := fm_get (f := tqC) (k := 2) (fun _ => rfl) l.reverse i hi
  have hd : l.reverse.getD i (0, ByteArray.empty) = l.reverse[i] := by simp only [List.getD, List.getElem?_eq_getElem hi, Option.getD_some]
  rw [hd]
  have h0' := hg 0 (by omega)
  have h1' := hg 1 (by omega)
  simp only [Nat.add_zero, tqC, List.getElem?_cons_zero, List.getElem?_cons_succ] at h0' h1'
  rw [Nat.zero_add, B2.out.1.cell h0', B2.out.1.cell h1']
  exact ⟨rfl, rfl⟩
end Go.Proofs.Ytccednepbkjajaa
