/- A part of the proof. -/
import Derived.Test.YtapbglhjamddbaaGreatDoorKf
import Derived.Test.YtapbglhjamddbaaGreatDoorQaB
import Derived.Test.YtapbglhjamddbaaGreatDoorHd
set_option linter.unusedSimpArgs false
set_option linter.unusedVariables false
namespace Go.Proofs.YtapbglhjamddbaaGreatDoor
open Go.RowKit Go.Deep
set_option maxRecDepth 100000
theorem rIs_cons {kd:Nat} {s:Bs} {l:List Tok} (h:rIs kd s l=true):∃ t r,l=t :: r:=by
 cases l with
 | nil=>cases h
 | cons t r=>exact⟨t,r,rfl⟩
theorem wrapj {j:Nat} (h:j≤400):wrap64 ((j:Int)+1)=((j+1:Nat):Int):=by unfold wrap64;omega
theorem drop_next {T:List Tok} {j:Nat} {t:Tok} {r:List Tok} (h:t :: r=T.drop j):j<T.length∧r=T.drop (j+1):=by
 have hl:j<T.length:=by
  rcases Nat.lt_or_ge j T.length with h1 | h1
  ·exact h1
  ·rw[List.drop_eq_nil_of_le h1] at h;cases h
 rw[List.drop_eq_getElem_cons hl] at h
 cases h
 exact⟨hl,rfl⟩
theorem RO.next {w:World} {p z k:Nat} {T:List Tok} {t:Tok} {r:List Tok} (h:RO w p z T (t :: r) k):∃ j:Nat,w.cell? ⟨p,1,none⟩=some (.int .i64 (j:Int))∧j≤400∧(∀ o,w.frozen? ⟨p,o,none⟩=false)∧p<w.heap.size∧w.cell? ⟨p,3,none⟩=some (.int .i64 0)∧RO (w.setCell ⟨p,1,none⟩ (.int .i64 ((j+1:Nat):Int))) p z T r k:=by
 obtain⟨j,pl,e,hs⟩:=h.st
 obtain⟨h1,h2⟩:=drop_next e
 exact⟨j,hs.cA,by have:=hs.tk.most;omega,hs.fz,hs.lt,hs.cE,⟨j+1,pl,h2,hs.setA (by omega)⟩,h.ks⟩
set_option maxHeartbeats 2000000 in
theorem rmay_yes (p z k:Nat) (T:List Tok) (t:Tok) (r:List Tok) (kd:Nat) (hk:kd≠0) (s:Bs) (w:World) (h:RO w p z T (t :: r) k) (hs:rIs kd s (t :: r)=true):Calls Tryz.prog 35 #[.pointer (some ⟨p,0,none⟩),.int .i64 (kd:Int),.string (bsB s)] w fun e w'=>e=.returned (.bool true)∧RO w' p z T r k∧Out (fun j=>j=p) w w':=by
 have C:=zH (ris_ok p z k T (t :: r) kd hk s w h)
 rw[hs] at C
 have H:=zH h
 clear h hs hk
 go_enter Tryz.func35,Tryz.ntmps35
 go_wp2_with fail
 refine C.out.mono ?_
 rintro e V ⟨rfl,hb⟩
 obtain⟨j,c1,hj,fz,lp,-,hR⟩:=(H.out.below hb).next
 have hw:=wrapj hj
 have HR:=zH hR
 have OB:=zH (Out.of (S:=fun j=>j=p) hb)
 clear hj hR hb
 go_wp2_with fail
 refine bodyPost_ret (v:=.bool true) (by simp[results,Tryz.results35,go_sem]) rfl ⟨rfl,?_,OB.out.trans (out_p _ _ _ _)⟩
 exact HR.out
set_option maxHeartbeats 2000000 in
theorem rmay_no (p z k:Nat) (T l:List Tok) (kd:Nat) (hk:kd≠0) (s:Bs) (w:World) (h:RO w p z T l k) (hs:rIs kd s l=false):Calls Tryz.prog 35 #[.pointer (some ⟨p,0,none⟩),.int .i64 (kd:Int),.string (bsB s)] w fun e w'=>e=.returned (.bool false)∧Below w.heap.size w w':=by
 have C:=zH (ris_ok p z k T l kd hk s w h)
 rw[hs] at C
 clear h hs hk
 go_enter Tryz.func35,Tryz.ntmps35
 go_wp2_with fail
 refine C.out.mono ?_
 rintro e V ⟨rfl,hb⟩
 have HB:=zH hb
 clear hb
 go_wp2_with fail
 exact bodyPost_ret (v:=.bool false) (by simp[results,Tryz.results35,go_sem]) rfl ⟨rfl,HB.out⟩
set_option maxHeartbeats 2000000 in
theorem rmay_err (p z:Nat) (T:List Tok) (er a:Nat) (kd:Int) (s:ByteArray) (w:World) (h:RE w p z T er a):Calls Tryz.prog 35 #[.pointer (some ⟨p,0,none⟩),.int .i64 kd,.string s] w fun e w'=>e=.returned (.bool false)∧Below w.heap.size w w':=by
 have C:=zH (ris_err p z T er a kd s w h)
 clear h
 go_enter Tryz.func35,Tryz.ntmps35
 go_wp2_with fail
 refine C.out.mono ?_
 rintro e V ⟨rfl,hb⟩
 have HB:=zH hb
 clear hb
 go_wp2_with fail
 exact bodyPost_ret (v:=.bool false) (by simp[results,Tryz.results35,go_sem]) rfl ⟨rfl,HB.out⟩
set_option maxHeartbeats 2000000 in
theorem rmust_yes (p z k:Nat) (T:List Tok) (t:Tok) (r:List Tok) (kd:Nat) (hk:kd≠0) (s:Bs) (w:World) (h:RO w p z T (t :: r) k) (hs:rIs kd s (t :: r)=true):Calls Tryz.prog 16 #[.pointer (some ⟨p,0,none⟩),.int .i64 (kd:Int),.string (bsB s)] w fun e w'=>e=.returned (.tuple #[])∧RO w' p z T r k∧Out (fun j=>j=p) w w':=by
 have C:=zH (rmay_yes p z k T t r kd hk s w h hs)
 clear h hs hk
 go_enter Tryz.func16,Tryz.ntmps16
 go_wp2_with fail
 refine C.out.mono ?_
 rintro e V ⟨rfl,hR,hO⟩
 have HR:=zH hR
 have HO:=zH hO
 clear hR hO
 go_wp2_with fail
 exact bodyPost_end (results_none (by rfl) _ _ _) rfl ⟨rfl,HR.out,HO.out⟩
set_option maxHeartbeats 2000000 in
theorem rmust_no (p z k:Nat) (T l:List Tok) (kd:Nat) (hk:kd≠0) (s:Bs) (w:World) (h:RO w p z T l k) (hs:rIs kd s l=false):Calls Tryz.prog 16 #[.pointer (some ⟨p,0,none⟩),.int .i64 (kd:Int),.string (bsB s)] w fun e w'=>e=.returned (.tuple #[])∧RE w' p z T 7 (hAt z l)∧Out (fun j=>j=p) w w':=by
 have C:=zH (rmay_no p z k T l kd hk s w h hs)
 have H:=zH h
 clear h hs hk
 go_enter Tryz.func16,Tryz.ntmps16
 go_wp2_with fail
 refine C.out.mono ?_
 rintro e V ⟨rfl,hb⟩
 have N:=zH (rno_ok 7 (by decide) (H.out.below hb))
 have HB:=zH (Out.of (S:=fun j=>j=p) hb)
 clear hb
 go_wp2_with fail
 refine N.out.mono ?_
 rintro e X ⟨rfl,hR,hO⟩
 have HR:=zH hR
 have HO:=zH (HB.out.trans hO)
 clear hR hO
 go_wp2_with fail
 exact bodyPost_end (results_none (by rfl) _ _ _) rfl ⟨rfl,HR.out,HO.out⟩
set_option maxHeartbeats 2000000 in
theorem rmust_err (p z:Nat) (T:List Tok) (er a:Nat) (kd:Int) (s:ByteArray) (w:World) (h:RE w p z T er a):Calls Tryz.prog 16 #[.pointer (some ⟨p,0,none⟩),.int .i64 kd,.string s] w fun e w'=>e=.returned (.tuple #[])∧Below w.heap.size w w':=by
 have C:=zH (rmay_err p z T er a kd s w h)
 have H:=zH h
 clear h
 go_enter Tryz.func16,Tryz.ntmps16
 go_wp2_with fail
 refine C.out.mono ?_
 rintro e V ⟨rfl,hb⟩
 have N:=zH (rno_more p z T er a 7 V (H.out.below hb))
 have HB:=zH hb
 clear hb
 go_wp2_with fail
 refine N.out.mono ?_
 rintro e X ⟨rfl,hb⟩
 have HX:=zH (HB.out.trans (hb.mono HB.out.size))
 clear hb
 go_wp2_with fail
 exact bodyPost_end (results_none (by rfl) _ _ _) rfl ⟨rfl,HX.out⟩
set_option maxHeartbeats 2000000 in
theorem rword_yes (p z k:Nat) (T:List Tok) (t:Tok) (r:List Tok) (s:Bs) (w:World) (h:RO w p z T (t :: r) k) (hs:rIs 1 s (t :: r)=true):Calls Tryz.prog 15 #[.pointer (some ⟨p,0,none⟩),.string (bsB s)] w fun e w'=>e=.returned (.bool true)∧RO w' p z T r k∧Out (fun j=>j=p) w w':=by
 have C:=zH (rmay_yes p z k T t r 1 (by decide) s w h hs)
 clear h hs
 go_enter Tryz.func15,Tryz.ntmps15
 go_wp2_with fail
 refine C.out.mono ?_
 rintro e V ⟨rfl,hR,hO⟩
 have HR:=zH hR
 have HO:=zH hO
 clear hR hO
 go_wp2_with fail
 exact bodyPost_ret (v:=.bool true) (by simp[results,Tryz.results15,go_sem]) rfl ⟨rfl,HR.out,HO.out⟩
set_option maxHeartbeats 2000000 in
theorem rword_no (p z k:Nat) (T l:List Tok) (s:Bs) (w:World) (h:RO w p z T l k) (hs:rIs 1 s l=false):Calls Tryz.prog 15 #[.pointer (some ⟨p,0,none⟩),.string (bsB s)] w fun e w'=>e=.returned (.bool false)∧Below w.heap.size w w':=by
 have C:=zH (rmay_no p z k T l 1 (by decide) s w h hs)
 clear h hs
 go_enter Tryz.func15,Tryz.ntmps15
 go_wp2_with fail
 refine C.out.mono ?_
 rintro e V ⟨rfl,hb⟩
 have HB:=zH hb
 clear hb
 go_wp2_with fail
 exact bodyPost_ret (v:=.bool false) (by simp[results,Tryz.results15,go_sem]) rfl ⟨rfl,HB.out⟩
set_option maxHeartbeats 2000000 in
theorem rword_err (p z:Nat) (T:List Tok) (er a:Nat) (s:ByteArray) (w:World) (h:RE w p z T er a):Calls Tryz.prog 15 #[.pointer (some ⟨p,0,none⟩),.string s] w fun e w'=>e=.returned (.bool false)∧Below w.heap.size w w':=by
 have C:=zH (rmay_err p z T er a 1 s w h)
 clear h
 go_enter Tryz.func15,Tryz.ntmps15
 go_wp2_with fail
 refine C.out.mono ?_
 rintro e V ⟨rfl,hb⟩
 have HB:=zH hb
 clear hb
 go_wp2_with fail
 exact bodyPost_ret (v:=.bool false) (by simp[results,Tryz.results15,go_sem]) rfl ⟨rfl,HB.out⟩
set_option maxHeartbeats 2000000 in
theorem rsign_yes (p z k:Nat) (T:List Tok) (t:Tok) (r:List Tok) (s:Bs) (w:World) (h:RO w p z T (t :: r) k) (hs:rIs 6 s (t :: r)=true):Calls Tryz.prog 30 #[.pointer (some ⟨p,0,none⟩),.string (bsB s)] w fun e w'=>e=.returned (.bool true)∧RO w' p z T r k∧Out (fun j=>j=p) w w':=by
 have C:=zH (rmay_yes p z k T t r 6 (by decide) s w h hs)
 clear h hs
 go_enter Tryz.func30,Tryz.ntmps30
 go_wp2_with fail
 refine C.out.mono ?_
 rintro e V ⟨rfl,hR,hO⟩
 have HR:=zH hR
 have HO:=zH hO
 clear hR hO
 go_wp2_with fail
 exact bodyPost_ret (v:=.bool true) (by simp[results,Tryz.results30,go_sem]) rfl ⟨rfl,HR.out,HO.out⟩
set_option maxHeartbeats 2000000 in
theorem rsign_no (p z k:Nat) (T l:List Tok) (s:Bs) (w:World) (h:RO w p z T l k) (hs:rIs 6 s l=false):Calls Tryz.prog 30 #[.pointer (some ⟨p,0,none⟩),.string (bsB s)] w fun e w'=>e=.returned (.bool false)∧Below w.heap.size w w':=by
 have C:=zH (rmay_no p z k T l 6 (by decide) s w h hs)
 clear h hs
 go_enter Tryz.func30,Tryz.ntmps30
 go_wp2_with fail
 refine C.out.mono ?_
 rintro e V ⟨rfl,hb⟩
 have HB:=zH hb
 clear hb
 go_wp2_with fail
 exact bodyPost_ret (v:=.bool false) (by simp[results,Tryz.results30,go_sem]) rfl ⟨rfl,HB.out⟩
set_option maxHeartbeats 2000000 in
theorem rsign_err (p z:Nat) (T:List Tok) (er a:Nat) (s:ByteArray) (w:World) (h:RE w p z T er a):Calls Tryz.prog 30 #[.pointer (some ⟨p,0,none⟩),.string s] w fun e w'=>e=.returned (.bool false)∧Below w.heap.size w w':=by
 have C:=zH (rmay_err p z T er a 6 s w h)
 clear h
 go_enter Tryz.func30,Tryz.ntmps30
 go_wp2_with fail
 refine C.out.mono ?_
 rintro e V ⟨rfl,hb⟩
 have HB:=zH hb
 clear hb
 go_wp2_with fail
 exact bodyPost_ret (v:=.bool false) (by simp[results,Tryz.results30,go_sem]) rfl ⟨rfl,HB.out⟩
set_option maxHeartbeats 2000000 in
theorem rname_yes (p z k:Nat) (T:List Tok) (t:Tok) (r:List Tok) (w:World) (h:RO w p z T (t :: r) k) (hk:t.kd=2):Calls Tryz.prog 61 #[.pointer (some ⟨p,0,none⟩)] w fun e w'=>e=.returned (.string (bsB t.s))∧RO w' p z T r k∧Out (fun j=>j=p) w w':=by
 obtain⟨j,pl,e,hs⟩:=h.st
 have C:=zH (rhere_any p z T j 0 pl k w hs)
 rw[← e] at C
 obtain⟨kd,n,a,s⟩:=t
 dsimp only at hk
 subst hk
 replace C:Hid (Calls Tryz.prog 28 #[.pointer (some ⟨p,0,none⟩)] w fun e w'=>e=.returned (.agg #[.int .i64 2,.int .i64 (n:Int),.int .i64 (a:Int),.string (bsB s)])∧Below w.heap.size w w'):=C
 have H:=zH h
 clear h e hs
 go_enter Tryz.func61,Tryz.ntmps61
 go_wp2_with fail
 refine C.out.mono ?_
 rintro e V ⟨rfl,hb⟩
 have b1:Below V.heap.size V (V.alloc (.cells #[.int .i64 2,.int .i64 (n:Int),.int .i64 (a:Int),.string (bsB s)] 82)):=ext_alloc (ext_refl _) _
 have K0:=BkA.new V [.int .i64 2,.int .i64 (n:Int),.int .i64 (a:Int),.string (bsB s)] 82
 obtain⟨X,hX⟩:∃ X,X=V.alloc (.cells #[.int .i64 2,.int .i64 (n:Int),.int .i64 (a:Int),.string (bsB s)] 82):=⟨_,rfl⟩
 rw[← hX] at b1
 replace K0:BkA X V.heap.size [.int .i64 2,.int .i64 (n:Int),.int .i64 (a:Int),.string (bsB s)]:=by rw[hX];exact K0
 have hpV:=(H.out.below hb).lt
 obtain⟨j,c1,hj,fz,lp,c3,hR⟩:=((H.out.below hb).below b1).next
 have hw:=wrapj hj
 have HR:=zH hR
 have OB:=zH (Out.of (S:=fun j=>j=p) (hb.trans (b1.mono hb.size)))
 have HX:=zH hX
 have u0:=K0.c 0 _ rfl
 have u3:=K0.c 3 _ rfl
 have ul:=K0.lt
 have hne:V.heap.size≠p:=by omega
 clear hj hR hb b1 hX K0
 go_upto_region 2 with fail
 rw[← HX.out]
 clear HX
 obtain⟨g,hg⟩:∃ g,g=V.heap.size:=⟨_,rfl⟩
 rw[← hg] at u0 u3 ul hne ⊢
 clear hg
 go_wp2_with fail
 refine bodyPost_ret (v:=.string (bsB s)) (by simp[results,Tryz.results61,go_sem]) rfl ⟨rfl,?_,OB.out.trans (out_p _ _ _ _)⟩
 exact HR.out
set_option linter.unusedSimpArgs false
set_option linter.unusedVariables false
set_option maxHeartbeats 2000000 in
theorem rname_no (p z k:Nat) (T l:List Tok) (w:World) (h:RO w p z T l k) (hk:(hd z l).kd≠2):Calls Tryz.prog 61 #[.pointer (some ⟨p,0,none⟩)] w fun e w'=>e=.returned (.string ⟨#[]⟩)∧RE w' p z T 7 (hAt z l)∧Out (fun j=>j=p) w w':=by
 obtain⟨j,pl,e,hs⟩:=h.st
 have C:=zH (rhere_any p z T j 0 pl k w hs)
 rw[← e] at C
 have H:=zH h
 obtain⟨⟨kd,n,a,s⟩,ht⟩:∃ t,t=hd z l:=⟨_,rfl⟩
 rw[← ht] at C hk
 dsimp only at hk
 have i1:((kd:Int) != 2)=true:=by rw[bne_iff_ne];omega
 clear h e hs ht hk
 go_enter Tryz.func61,Tryz.ntmps61
 go_wp2_with fail
 refine C.out.mono ?_
 rintro e V ⟨rfl,hb⟩
 have b1:Below V.heap.size V (V.alloc (.cells #[.int .i64 (kd:Int),.int .i64 (n:Int),.int .i64 (a:Int),.string (bsB s)] 82)):=ext_alloc (ext_refl _) _
 have H2:=(H.out.below hb).below b1
 obtain⟨j,pl,e,hs⟩:=H2.st
 have c3:=hs.cE
 have lp:=hs.lt
 have N:=zH (rno_ok 7 (by decide) H2)
 have OB:=zH (Out.of (S:=fun j=>j=p) (hb.trans (b1.mono hb.size)))
 clear H2 e hs hb b1
 go_wp2_with fail
 refine N.out.mono ?_
 rintro e X ⟨rfl,hR,hO⟩
 have HR:=zH hR
 have HO:=zH (OB.out.trans hO)
 clear hR hO
 go_wp2_with fail
 exact bodyPost_ret (v:=.string ⟨#[]⟩) (by simp[results,Tryz.results61,go_sem]) rfl ⟨rfl,HR.out,HO.out⟩
set_option maxHeartbeats 2000000 in
theorem rname_err (p z:Nat) (T:List Tok) (er a:Nat) (w:World) (h:RE w p z T er a):Calls Tryz.prog 61 #[.pointer (some ⟨p,0,none⟩)] w fun e w'=>e=.returned (.string ⟨#[]⟩)∧Below w.heap.size w w':=by
 obtain⟨j,d,hs⟩:=h.st
 have C:=zH (rhere_any p z T j er a d w hs)
 have H:=zH h
 obtain⟨⟨kd,n,at_,s⟩,ht⟩:∃ t,t=hd z (T.drop j):=⟨_,rfl⟩
 rw[← ht] at C
 have i1:((er:Int) != 0)=true:=by rw[bne_iff_ne];have:=h.ne;omega
 clear h hs ht
 go_enter Tryz.func61,Tryz.ntmps61
 go_wp2_with fail
 refine C.out.mono ?_
 rintro e V ⟨rfl,hb⟩
 have b1:Below V.heap.size V (V.alloc (.cells #[.int .i64 (kd:Int),.int .i64 (n:Int),.int .i64 (at_:Int),.string (bsB s)] 82)):=ext_alloc (ext_refl _) _
 have H2:=(H.out.below hb).below b1
 have N:=zH (rno_more p z T er a 7 _ H2)
 obtain⟨j,d,hs⟩:=H.out.below hb |>.st
 have c3:=hs.cE
 have lp:=hs.lt
 have OB:=zH (hb.trans (b1.mono hb.size))
 clear H2 hs hb b1
 go_wp2_with fail
 refine N.out.mono ?_
 rintro e X ⟨rfl,hb⟩
 have HO:=zH (OB.out.trans (hb.mono OB.out.size))
 clear hb
 go_wp2_with fail
 exact bodyPost_ret (v:=.string ⟨#[]⟩) (by simp[results,Tryz.results61,go_sem]) rfl ⟨rfl,HO.out⟩
theorem RO.deep {w:World} {p z k:Nat} {T l:List Tok} (h:RO w p z T l k):w.cell? ⟨p,5,none⟩=some (.int .i64 (k:Int))∧(∀ o,w.frozen? ⟨p,o,none⟩=false)∧p<w.heap.size∧w.cell? ⟨p,3,none⟩=some (.int .i64 0)∧∀ m:Nat,m≤60→RO (w.setCell ⟨p,5,none⟩ (.int .i64 (m:Int))) p z T l m:=by
 obtain⟨j,pl,e,hs⟩:=h.st
 exact⟨hs.cD,hs.fz,hs.lt,hs.cE,fun m hm=>⟨⟨j,pl,e,hs.setD m⟩,hm⟩⟩
theorem RE.deep {w:World} {p z er a:Nat} {T:List Tok} (h:RE w p z T er a):∃ d,w.cell? ⟨p,5,none⟩=some (.int .i64 d)∧(∀ o,w.frozen? ⟨p,o,none⟩=false)∧p<w.heap.size∧w.cell? ⟨p,3,none⟩=some (.int .i64 (er:Int))∧∀ m:Int,RE (w.setCell ⟨p,5,none⟩ (.int .i64 m)) p z T er a:=by
 obtain⟨j,d,hs⟩:=h.st
 exact⟨d,hs.cD,hs.fz,hs.lt,hs.cE,fun m=>⟨⟨j,m,hs.setD m⟩,h.ne⟩⟩
set_option maxHeartbeats 2000000 in
theorem rdeep_yes (p z k:Nat) (T l:List Tok) (w:World) (h:RO w p z T l k) (hk:k<60):Calls Tryz.prog 62 #[.pointer (some ⟨p,0,none⟩)] w fun e w'=>e=.returned (.tuple #[])∧RO w' p z T l (k+1)∧Out (fun j=>j=p) w w':=by
 obtain⟨c5,fz,lp,-,hm⟩:=h.deep
 have H:=zH (hm (k+1) (by omega))
 have i1:¬ (60:Int)≤(k:Int):=by omega
 have hw:wrap64 ((k:Int)+1)=((k+1:Nat):Int):=by unfold wrap64;omega
 clear h hm hk
 go_enter Tryz.func62,Tryz.ntmps62
 go_wp2_with fail
 exact bodyPost_end (results_none (by rfl) _ _ _) rfl ⟨rfl,H.out,out_p _ _ _ _⟩
set_option maxHeartbeats 2000000 in
theorem rdeep_no (p z:Nat) (T l:List Tok) (w:World) (h:RO w p z T l 60):Calls Tryz.prog 62 #[.pointer (some ⟨p,0,none⟩)] w fun e w'=>e=.returned (.tuple #[])∧RE w' p z T 5 (hAt z l)∧Out (fun j=>j=p) w w':=by
 obtain⟨c5,fz,lp,-,-⟩:=h.deep
 have N:=zH (rno_ok 5 (by decide) h)
 have c5':w.cell? ⟨p,5,none⟩=some (.int .i64 60):=c5
 clear h c5 fz
 go_enter Tryz.func62,Tryz.ntmps62
 go_wp2_with fail
 refine N.out.mono ?_
 rintro e X ⟨rfl,hR,hO⟩
 obtain⟨d,c6,fz,lp2,-,hm⟩:=hR.deep
 have HM:=zH (hm (wrap64 (d+1)))
 have HO:=zH hO
 clear hR hO hm c5' lp
 go_wp2_with fail
 exact bodyPost_end (results_none (by rfl) _ _ _) rfl ⟨rfl,HM.out,HO.out.trans (out_p _ _ _ _)⟩
set_option maxHeartbeats 2000000 in
theorem rdeep_err (p z:Nat) (T:List Tok) (er a:Nat) (w:World) (h:RE w p z T er a):Calls Tryz.prog 62 #[.pointer (some ⟨p,0,none⟩)] w fun e w'=>e=.returned (.tuple #[])∧RE w' p z T er a∧Out (fun j=>j=p) w w':=by
 obtain⟨d,c5,fz,lp,-,hm⟩:=h.deep
 by_cases h60:(60:Int)≤d
 ·have N:=zH (rno_more p z T er a 5 w h)
  have H:=zH h
  clear h hm fz
  go_enter Tryz.func62,Tryz.ntmps62
  go_wp2_with fail
  refine N.out.mono ?_
  rintro e X ⟨rfl,hb⟩
  obtain⟨d2,c6,fz,lp2,-,hm⟩:=(H.out.below hb).deep
  have HM:=zH (hm (wrap64 (d2+1)))
  have HO:=zH (Out.of (S:=fun j=>j=p) hb)
  clear hb hm c5 lp h60
  go_wp2_with fail
  exact bodyPost_end (results_none (by rfl) _ _ _) rfl ⟨rfl,HM.out,HO.out.trans (out_p _ _ _ _)⟩
 ·have HM:=zH (hm (wrap64 (d+1)))
  clear h hm
  go_enter Tryz.func62,Tryz.ntmps62
  go_wp2_with fail
  exact bodyPost_end (results_none (by rfl) _ _ _) rfl ⟨rfl,HM.out,out_p _ _ _ _⟩
set_option maxHeartbeats 2000000 in
theorem rtext_any (s:ByteArray) (w:World):Calls Tryz.prog 145 #[.string s] w fun e w'=>e=.returned (.agg #[.int .i64 3,.int .i64 0,.string s])∧Below w.heap.size w w':=by
 go_enter Tryz.func145,Tryz.ntmps145
 go_wp2_with fail
 refine bodyPost_ret (v:=.agg #[.int .i64 3,.int .i64 0,.string s]) (by simp[results,Tryz.results145,go_sem]) rfl ⟨rfl,?_⟩
 (repeat (first | exact ext_refl _ | assumption |(refine ext_alloc ?_ _) |(refine ext_drewN ?_ _) | refine ext_drew ?_ |(refine ext_set (by first |(simp;done) |(simp;omega)) _ ?_) |(refine ext_trans ?_ (by assumption))))
set_option maxHeartbeats 2000000 in
theorem rconst_any (v:Val) (w:World):Calls Tryz.prog 144 #[.agg #[.int .i64 v.k,.int .i64 v.n,.string v.s]] w fun e w'=>e=.returned (.agg (exCells 1 v 0 0 0 ⟨#[]⟩ none 0 0).toArray)∧Below w.heap.size w w':=by
 obtain⟨vk,vn,vs⟩:=v
 go_enter Tryz.func144,Tryz.ntmps144
 go_wp2_with fail
 refine bodyPost_ret (v:=.agg (exCells 1 ⟨vk,vn,vs⟩ 0 0 0 ⟨#[]⟩ none 0 0).toArray) (by simp[results,Tryz.results144,go_sem]) rfl ⟨rfl,?_⟩
 (repeat (first | exact ext_refl _ | assumption |(refine ext_alloc ?_ _) |(refine ext_drewN ?_ _) | refine ext_drew ?_ |(refine ext_set (by first |(simp;done) |(simp;omega)) _ ?_) |(refine ext_trans ?_ (by assumption))))
theorem new_cells (V:World) (n:Nat) (hn:n=V.heap.size) (cs:List Value) (T:TypeId) (j:Nat) (u:Value) (hu:cs[j]?=some u):(V.alloc (.cells cs.toArray T)).cell? ⟨n,j,none⟩=some u:=by subst hn;exact (BkA.new V cs T).c j u hu
set_option maxHeartbeats 4000000 in
theorem rone_any (op:Int) (r:RawE) (w:World):Calls Tryz.prog 91 #[.int .i64 op,(Value.agg #[.int .i64 r.op,.int .i64 r.v.k,.int .i64 r.v.n,.string r.v.s,.int .i64 r.rel,.int .i64 r.col,.int .i64 r.n,.string r.s,.slice r.q r.len r.c])] w fun e w'=>(∃ nb,w.heap.size≤nb∧nb<w'.heap.size∧(∀ (j:Nat) u,r.cells[j]?=some u→w'.cell? ⟨nb,j,none⟩=some u)∧e=.returned (.agg (exCells op zeroVal 0 0 0 ⟨#[]⟩ (some ⟨nb,0,none⟩) 1 1).toArray))∧Below w.heap.size w w':=by
 obtain⟨fop,⟨fvk,fvn,fvs⟩,frel,fcol,fn,fs,fq,flen,fc⟩:=r
 go_enter Tryz.func91,Tryz.ntmps91
 go_wp2_with fail
 refine bodyPost_ret (v:=.agg (exCells op zeroVal 0 0 0 ⟨#[]⟩ (some ⟨w.heap.size+1+1,0,none⟩) 1 1).toArray) (by simp[results,Tryz.results91,go_sem,zeroVal]) rfl ⟨⟨w.heap.size+1+1,by omega,by simp,new_cells _ _ (by simp) (RawE.cells ⟨fop,⟨fvk,fvn,fvs⟩,frel,fcol,fn,fs,fq,flen,fc⟩) _,rfl⟩,?_⟩
 (repeat (first | exact ext_refl _ | assumption |(refine ext_alloc ?_ _) |(refine ext_drewN ?_ _) | refine ext_drew ?_ |(refine ext_set (by first |(simp;done) |(simp;omega)) _ ?_) |(refine ext_trans ?_ (by assumption))))
set_option maxHeartbeats 4000000 in
theorem rtwo_any (op:Int) (r s:RawE) (w:World):Calls Tryz.prog 64 #[.int .i64 op,(Value.agg #[.int .i64 r.op,.int .i64 r.v.k,.int .i64 r.v.n,.string r.v.s,.int .i64 r.rel,.int .i64 r.col,.int .i64 r.n,.string r.s,.slice r.q r.len r.c]),(Value.agg #[.int .i64 s.op,.int .i64 s.v.k,.int .i64 s.v.n,.string s.v.s,.int .i64 s.rel,.int .i64 s.col,.int .i64 s.n,.string s.s,.slice s.q s.len s.c])] w fun e w'=>(∃ nb,w.heap.size≤nb∧nb<w'.heap.size∧(∀ (j:Nat) u,(r.cells++s.cells)[j]?=some u→w'.cell? ⟨nb,j,none⟩=some u)∧e=.returned (.agg (exCells op zeroVal 0 0 0 ⟨#[]⟩ (some ⟨nb,0,none⟩) 2 2).toArray))∧Below w.heap.size w w':=by
 obtain⟨fop,⟨fvk,fvn,fvs⟩,frel,fcol,fn,fs,fq,flen,fc⟩:=r
 obtain⟨gop,⟨gvk,gvn,gvs⟩,grel,gcol,gn,gs,gq,glen,gc⟩:=s
 go_enter Tryz.func64,Tryz.ntmps64
 go_wp2_with fail
 refine bodyPost_ret (v:=.agg (exCells op zeroVal 0 0 0 ⟨#[]⟩ (some ⟨w.heap.size+1+1+1,0,none⟩) 2 2).toArray) (by simp[results,Tryz.results64,go_sem,zeroVal]) rfl ⟨⟨w.heap.size+1+1+1,by omega,by simp,new_cells _ _ (by simp) (RawE.cells ⟨fop,⟨fvk,fvn,fvs⟩,frel,fcol,fn,fs,fq,flen,fc⟩++RawE.cells ⟨gop,⟨gvk,gvn,gvs⟩,grel,gcol,gn,gs,gq,glen,gc⟩) _,rfl⟩,?_⟩
 (repeat (first | exact ext_refl _ | assumption |(refine ext_alloc ?_ _) |(refine ext_drewN ?_ _) | refine ext_drew ?_ |(refine ext_set (by first |(simp;done) |(simp;omega)) _ ?_) |(refine ext_trans ?_ (by assumption))))
def ShE (v:Value):Prop:=∃ r:RawE,v=(Value.agg #[.int .i64 r.op,.int .i64 r.v.k,.int .i64 r.v.n,.string r.v.s,.int .i64 r.rel,.int .i64 r.col,.int .i64 r.n,.string r.s,.slice r.q r.len r.c])
def RAns {α:Type} (R:Nat→World→α→Value→Prop) (Sh:Value→Prop) (p z:Nat) (T:List Tok) (k:Nat) (res:PR α) (w:World) (e:Ending) (w':World):Prop :=
 Out (fun j=>j=p) w w'∧∃ v,e=.returned v∧Sh v∧match res with
  | .ok x r=>R w.heap.size w' x v∧RO w' p z T r k
  | .err er a=>RE w' p z T er a
theorem RAns.err {α:Type} {R:Nat→World→α→Value→Prop} {Sh:Value→Prop} {p z k er a:Nat} {T:List Tok} {res:PR α} {w w':World} {e:Ending} (h:RAns R Sh p z T k res w e w') (hr:res=.err er a):Out (fun j=>j=p) w w'∧∃ v,e=.returned v∧Sh v∧RE w' p z T er a:=by subst hr;exact h
theorem RAns.ok {α:Type} {R:Nat→World→α→Value→Prop} {Sh:Value→Prop} {p z k:Nat} {T:List Tok} {res:PR α} {x:α} {r:List Tok} {w w':World} {e:Ending} (h:RAns R Sh p z T k res w e w') (hr:res=.ok x r):Out (fun j=>j=p) w w'∧∃ v,e=.returned v∧Sh v∧R w.heap.size w' x v∧RO w' p z T r k:=by subst hr;exact h
theorem RAns.mkErr {α:Type} {R:Nat→World→α→Value→Prop} {Sh:Value→Prop} {p z k er a:Nat} {T:List Tok} {res:PR α} {w w':World} {v:Value} (hr:res=.err er a) (hO:Out (fun j=>j=p) w w') (hs:Sh v) (h:RE w' p z T er a):RAns R Sh p z T k res w (.returned v) w':=by subst hr;exact⟨hO,v,rfl,hs,h⟩
theorem RAns.mkOk {α:Type} {R:Nat→World→α→Value→Prop} {Sh:Value→Prop} {p z k:Nat} {T:List Tok} {res:PR α} {x:α} {r:List Tok} {w w':World} {v:Value} (hr:res=.ok x r) (hO:Out (fun j=>j=p) w w') (hs:Sh v) (hR:R w.heap.size w' x v) (h:RO w' p z T r k):RAns R Sh p z T k res w (.returned v) w':=by subst hr;exact⟨hO,v,rfl,hs,hR,h⟩
end Go.Proofs.YtapbglhjamddbaaGreatDoor
