/- A part of the proof. -/
import Derived.Test.YtapbglhjamddbaaGreatDoorLcG
import Derived.Test.YtapbglhjamddbaaGreatDoorKb
import Derived.Test.YtapbglhjamddbaaGreatDoorHd
namespace Go.Proofs.YtapbglhjamddbaaGreatDoor
open Go.RowKit
set_option maxRecDepth 100000
theorem next_any (A S K m:Nat) (s:ByteArray) (j:Nat) (w:World) (hR:RD w A S K m s j) (hj:j≤s.size) (hs:s.size≤2000) (p:Nat) (hp:p=j+((s.data.toList.drop j).takeWhile isBlank).length) (o:Option One) (ho:o=if p<s.size then some (one (s.data.toList.drop p)) else none) :
  Calls Tryz.prog 39 #[.pointer (some ⟨A,0,none⟩),.pointer (some ⟨S,0,none⟩),.pointer (some ⟨K,0,none⟩)] w fun e w'=>NextIs A S K m s p o e w'∧Out (fun k=>k=A) w w':=by
 have hsl:s.data.toList.length=s.size:=Array.length_toList
 by_cases hlt:p<s.size
 ·rw[if_pos hlt] at ho
  subst ho
  obtain⟨b,hb⟩:∃ b,s.data.toList[p]?=some b:=⟨_,List.getElem?_eq_getElem (by rw[hsl];exact hlt)⟩
  cases h1:one (s.data.toList.drop p) with
  | err er rel =>
   cases hl:isLetter b with
   | true=>exact next_letter_err A S K m s j w hR hj hs p hp hlt b hb hl er rel h1
   | false =>
    cases hd:isDigit b with
    | true=>exact next_digit_err A S K m s j w hR hj hs p hp hlt b hb hl hd er rel h1
    | false =>
     by_cases h39:b=39
     ·exact next_quote_err A S K m s j w hR hj hs p hp hlt b hb hl hd h39 er rel h1
     ·by_cases h36:b=36
      ·exact next_dollar_err A S K m s j w hR hj hs p hp hlt b hb hl hd h39 h36 er rel h1
      ·exact next_other_err A S K m s j w hR hj hs p hp hlt b hb hl hd h39 h36 er rel h1
  | tok kd n st used =>
   cases hl:isLetter b with
   | true=>exact next_letter_tok A S K m s j w hR hj hs p hp hlt b hb hl kd n st used h1
   | false =>
    cases hd:isDigit b with
    | true=>exact next_digit_tok A S K m s j w hR hj hs p hp hlt b hb hl hd kd n st used h1
    | false =>
     by_cases h39:b=39
     ·exact next_quote_tok A S K m s j w hR hj hs p hp hlt b hb hl hd h39 kd n st used h1
     ·by_cases h36:b=36
      ·exact next_dollar_tok A S K m s j w hR hj hs p hp hlt b hb hl hd h39 h36 kd n st used h1
      ·exact next_other_tok A S K m s j w hR hj hs p hp hlt b hb hl hd h39 h36 kd n st used h1
 ·rw[if_neg hlt] at ho
  subst ho
  exact next_end A S K m s j w hR hj hs p hp hlt
set_option maxHeartbeats 1000000 in
theorem reader_any (s:ByteArray) (w:World) (hG:GV w) :
  Calls Tryz.prog 19 #[.string s] w fun e w'=>(∃ A S K m,e=.returned (.func (.func 39) #[] #[.pointer (some ⟨A,0,none⟩),.pointer (some ⟨S,0,none⟩),.pointer (some ⟨K,0,none⟩)])∧w.heap.size≤A∧RD w' A S K m s 0)∧Below w.heap.size w w':=by
 go_enter Tryz.func19,Tryz.ntmps19
 go_wp2_with fail
 refine (words_any _ (hG.alloc _)).mono ?_
 rintro e w1 ⟨⟨m,rfl,hm,hM⟩,hb1⟩
 obtain⟨W,hW⟩:∃ W,W=w.alloc (.cells #[.string s] 9):=⟨_,rfl⟩
 have sW:W.cell? ⟨w.heap.size,0,none⟩=some (.string s):=by rw[hW];simp[go_sem]
 have zW:W.heap.size=w.heap.size+1:=by rw[hW];simp
 have bW:Below w.heap.size w W:=by rw[hW];(repeat (first | exact ext_refl _ | assumption |(refine ext_alloc ?_ _) |(refine ext_drewN ?_ _) | refine ext_drew ?_ |(refine ext_set (by first |(simp;done) |(simp;omega)) _ ?_) |(refine ext_trans ?_ (by assumption))))
 rw[← hW] at hb1 hm
 have hz1:=hb1.size
 have G1:=hG.on (bW.trans (hb1.mono bW.size))
 have lm:=hM.lt
 have B1:Below w.heap.size w w1:=bW.trans (hb1.mono bW.size)
 have s1:w1.cell? ⟨w.heap.size,0,none⟩=some (.string s):=(hb1.cell (p:=⟨_,_,none⟩) (by show w.heap.size<W.heap.size;omega)).trans sW
 obtain⟨X,hX⟩:∃ X,X=(w1.alloc (.cells #[.map (some m)] 92)).alloc (.cells #[.int .i64 0] 3):=⟨_,rfl⟩
 have zX:X.heap.size=w1.heap.size+1+1:=by rw[hX];simp
 have bX:Below w1.heap.size w1 X:=by rw[hX];(repeat (first | exact ext_refl _ | assumption |(refine ext_alloc ?_ _) |(refine ext_drewN ?_ _) | refine ext_drew ?_ |(refine ext_set (by first |(simp;done) |(simp;omega)) _ ?_) |(refine ext_trans ?_ (by assumption))))
 have hR:RD X (w1.heap.size+1) w.heap.size w1.heap.size m s 0:=by
  refine⟨?_,(bX.cell (p:=⟨_,_,none⟩) (by show w.heap.size<w1.heap.size;omega)).trans s1,?_,?_,?_,?_,?_,?_,?_,?_,?_,?_,hM.ext bX lm,G1.on bX⟩
  ·rw[hX];simp[go_sem]
  ·rw[hX];simp[go_sem]
  ·intro o;rw[hX];simp[go_sem]
  all_goals first | omega |(have:=hG.size;omega)
 have hE:=B1.trans (bX.mono (by omega))
 have HF:=zH (And.intro hR hE)
 have HX:=zH hX
 have hle:w.heap.size≤w1.heap.size+1:=by omega
 clear hR hE hX hM G1 hW sW bW hb1 hm s1 B1 bX zX zW hz1 lm
 go_wp2_with fail
 rw[← HX.out]
 refine bodyPost_ret (v:=.func (.func 39) #[] #[.pointer (some ⟨w1.heap.size+1,0,none⟩),.pointer (some ⟨w.heap.size,0,none⟩),.pointer (some ⟨w1.heap.size,0,none⟩)]) (by simp[results,Tryz.results19,go_sem]) rfl ⟨⟨_,_,_,m,rfl,hle,HF.out.1⟩,HF.out.2⟩
theorem lexL_skip (l:Bs) (j cnt p:Nat) (hp:p=j+((l.drop j).takeWhile isBlank).length):lexL (l.drop j) j cnt=lexL (l.drop p) p cnt:=by
 have h:=lexL_ahead ((l.drop j).takeWhile isBlank) (l.drop p) j cnt (fun b hb=>while_all hb)
 have e:(l.drop j).takeWhile isBlank++l.drop p=l.drop j:=by
  rw[hp,← List.drop_drop]
  have:=take_while isBlank (l.drop j)
  conv=>lhs;lhs;rw[← this]
  exact List.take_append_drop _ _
 rw[e,← hp] at h
 exact h
theorem skip_stop {l:Bs} {j p:Nat} (hp:p=j+((l.drop j).takeWhile isBlank).length) {b:UInt8} (hb:l[p]?=some b):isBlank b=false:=by
 have h:=takeWhile_at (p:=isBlank) (l:=l.drop j) (i:=p - j) (b:=b) (by omega) (by rw[List.getElem?_drop,show j+(p - j)=p by omega];exact hb)
 cases hc:isBlank b with
 | false=>rfl
 | true=>have:=h.2 hc;omega
theorem OwnF.made_ {α:Type} {cells:α→List Value} {sz:Nat} (w:World) (base:Nat) (E:TypeId) (h:base≤w.heap.size):OwnF (w.alloc (.cells #[] E)) base E sz cells (.slice (some ⟨w.heap.size,0,none⟩) 0 0) [] :=
 ⟨by simp,.inr ⟨w.heap.size,0,#[],rfl,h,heap_alloc_new w _,Nat.le_refl _,Nat.zero_le _,by simp,by simp⟩⟩
theorem OwnF.above {α:Type} {cells:α→List Value} {sz:Nat} {w:World} {base:Nat} {E:TypeId} {v:Value} {l:List α} (h:OwnF w base E sz cells v l) {k:Nat} (hk:v.ownBlock=some k):base≤k:=by
 rcases h.2 with ⟨hv,-⟩ |⟨g,cap,cur,hv,hg,-⟩
 ·rw[hv] at hk;cases hk
 ·rw[hv] at hk;cases hk;exact hg
theorem Tryz.infoTokL:(Tryz.prog.info? 55).map (fun i=>(i.zero,i.size,i.bytes))=some (some (.agg #[.int .i64 0,.int .i64 0,.int .i64 0,.string ⟨#[]⟩]),4,40):=by kernel_rfl
theorem push_preL (t:Tok) (A:List Tok) (r:Res):(r.push t).pre A=r.pre (A++[t]):=by cases r <;> simp[Res.pre,Res.push]
theorem RD.own {w w':World} {A S K m:Nat} {s:ByteArray} {j n:Nat} (h:RD w A S K m s j) (hb:Below n w w') (hA:A<n) (hS:S<n∧K<n∧m<n):RD w' A S K m s j where
 at0:=(hb.cell (p:=⟨_,_,none⟩) hA).trans h.at0
 sC:=(hb.cell (p:=⟨_,_,none⟩) hS.1).trans h.sC
 kC:=(hb.cell (p:=⟨_,_,none⟩) hS.2.1).trans h.kC
 fA o:=(hb.frozen (p:=⟨_,o,none⟩) hA).trans (h.fA o)
 lA:=Nat.lt_of_lt_of_le h.lA hb.size
 lS:=Nat.lt_of_lt_of_le h.lS hb.size
 lK:=Nat.lt_of_lt_of_le h.lK hb.size
 lm:=Nat.lt_of_lt_of_le h.lm hb.size
 nS:=h.nS
 nK:=h.nK
 nm:=h.nm
 hA:=h.hA
 words:=h.words.ext hb hS.2.2
 vars:=h.vars.below hb (Nat.le_of_lt (Nat.lt_of_le_of_lt h.hA hA))
theorem one_kind {l:Bs} {kd n:Nat} {st:Bs} {used:Nat} (h:one l=.tok kd n st used):kd≠0:=by
 cases l with
 | nil=>cases h
 | cons b r =>
  rw[one_cons] at h
  split at h
  ·unfold oneWord at h;split at h
   ·cases h
   ·cases h;split <;> decide
  ·split at h
   ·unfold oneNum at h;split at h
    ·cases h
    ·cases h;decide
   ·split at h
    ·unfold oneText at h;split at h
     ·cases h
     ·split at h
      ·cases h
      ·cases h;decide
    ·split at h
     ·unfold onePar at h;split at h
      ·cases h
      ·split at h
       ·cases h
       ·cases h;decide
     ·unfold oneSign at h;split at h
      ·cases h
      ·cases h;decide
def LexIs (w:World):Res→Ending→World→Prop
 | .ok L,e,w'=>∃ q c,e=.returned (.tuple #[.slice q L.length c,.int .i64 0,.int .i64 0])∧OwnF w' w.heap.size 55 4 tokCell (.slice q L.length c) L
 | .err er a,e,_=>∃ q c,e=.returned (.tuple #[.slice q 0 c,.int .i64 (er:Int),.int .i64 (a:Int)])
def atOf (w:World) (A:Nat):Nat:=match w.cell? ⟨A,0,none⟩ with
 | some v=>(intOf v).toNat
 | none=>0
theorem RD.atOf {w:World} {A S K m:Nat} {s:ByteArray} {j:Nat} (h:RD w A S K m s j):atOf w A=j:=by
 unfold Go.Proofs.YtapbglhjamddbaaGreatDoor.atOf
 rw[h.at0]
 simp[intOf]
set_option maxHeartbeats 8000000 in
theorem llex_any (s:ByteArray) (w:World) (hG:GV w) (r:Res) (hr:lexS s.data.toList=r) :
  Calls Tryz.prog 8 #[.string s] w fun e w'=>LexIs w r e w'∧Below w.heap.size w w':=by
 have hsl:s.data.toList.length=s.size:=Array.length_toList
 by_cases h2000:2000<s.size
 ·obtain rfl:r=.err 5 0:=by rw[← hr];unfold lexS;rw[if_pos (by omega)]
  have z1:(s.size:Int) > 2000:=by omega
  clear hr
  go_enter Tryz.func8,Tryz.ntmps8
  go_wp2_with fail
  refine bodyPost_ret (v:=.tuple #[.slice none 0 0,.int .i64 5,.int .i64 0]) (by simp[results,Tryz.results8,go_sem]) rfl ⟨⟨none,0,rfl⟩,Below.refl _ _⟩
 ·have z1:¬ (s.size:Int) > 2000:=by omega
  have h2:s.size≤2000:=by omega
  have hL:lexL s.data.toList 0 0=r:=by rw[← hr];unfold lexS;rw[if_neg (by omega)]
  have HL:=zH hL
  clear hr hL h2000
  go_enter Tryz.func8,Tryz.ntmps8
  go_wp2_with fail
  refine (reader_any s w hG).mono ?_
  rintro e w1 ⟨⟨A,S,K,m,rfl,hA,hR⟩,hb1⟩
  have HR:=zH hR
  have HB:=zH hb1
  have hs1:=hb1.size
  have hAl:=hR.lA
  have HS3:=zH (And.intro hR.lS (And.intro hR.lK hR.lm))
  clear hR hb1
  go_wp2_with fail
  have O0:OwnF (w1.alloc (.cells #[] 55)) w1.heap.size 55 4 tokCell (.slice (some ⟨w1.heap.size,0,none⟩) 0 0) ([]:List Tok):=OwnF.made_ _ _ _ (Nat.le_refl _)
  have R0:=HR.out.on (ext_alloc (ext_refl _) (.cells #[] 55))
  have B0:Below w.heap.size w (w1.alloc (.cells #[] 55)):=ext_alloc HB.out _
  have H0:=zH (And.intro R0 (And.intro O0 B0))
  clear R0 O0 B0 HR HB
  go_loopw [6] (fun vo wr=>∃ (j:Nat) (L:List Tok),j≤s.size∧L.length≤400∧Hid (RD wr A S K m s j∧OwnF wr w1.heap.size 55 4 tokCell vo L∧Below w.heap.size w wr∧r=(lexL (s.data.toList.drop j) j L.length).pre L∧w1.heap.size≤wr.heap.size)) (fun _ wr=>s.size - atOf wr A)
  case atStart=>exact⟨0,[],Nat.zero_le _,by simp,H0.out.1,H0.out.2.1,H0.out.2.2,by rw[← HL.out,pre_nil];rfl,by simp⟩
  case round =>
   obtain⟨j,L,hj,hL4,HH⟩:=hrel
   obtain⟨V,hV⟩:∃ V,V=wr:=⟨_,rfl⟩
   have hat:atOf wr A=j:=HH.out.1.atOf
   rw[hat]
   clear hat
   rw[← hV] at HH
   rw[← hV]
   clear hV H0
   have HO:=HH.out.2.1
   obtain⟨q,c,rfl,hlc,hcm,-,-⟩:=HO.arr tokCell_len
   clear HO
   obtain⟨p,hp⟩:∃ p,p=j+((s.data.toList.drop j).takeWhile isBlank).length:=⟨_,rfl⟩
   have hps:p≤s.size:=by have:=takeWhile_le isBlank (s.data.toList.drop j);rw[List.length_drop,hsl] at this;omega
   have hjp:j≤p:=by omega
   have hskip:=lexL_skip s.data.toList j L.length p hp
   have hrp:r=(lexL (s.data.toList.drop p) p L.length).pre L:=by rw[HH.out.2.2.2.1,hskip]
   obtain⟨o,ho⟩:∃ o,o=if p<s.size then some (one (s.data.toList.drop p)) else none:=⟨_,rfl⟩
   have CN:=zH (next_any A S K m s j V HH.out.1 hj h2 p hp o ho)
   clear hskip
   by_cases hlt:p<s.size
   ·rw[if_pos hlt] at ho
    subst ho
    obtain⟨b,hb⟩:∃ b,s.data.toList[p]?=some b:=⟨_,List.getElem?_eq_getElem (by rw[hsl];exact hlt)⟩
    have hbl:=skip_stop hp hb
    have hd:s.data.toList.drop p=b :: s.data.toList.drop (p+1):=by
     obtain⟨h1,rfl⟩:=List.getElem?_eq_some_iff.1 hb
     exact List.drop_eq_getElem_cons h1
    clear hb hp
    cases h1:one (s.data.toList.drop p) with
    | err er rel =>
     rw[h1] at CN
     rw[hd] at h1
     have her:=(one_rel h1).1
     have hrl:=(one_rel h1).2
     have HN:=zH (show r=.err er (p+rel) by rw[hrp,hd,lexL_err hbl h1];rfl)
     have h5:((er:Int) == 0)=false:=by rw[beq_eq_false_iff_ne];rcases her with rfl | rfl <;> decide
     clear hrp hd h1 her hrl hbl
     go_wp2_with fail
     refine (CN.out).mono ?_
     rintro e X ⟨rfl,oX⟩
     have BX:=zH (HH.out.2.2.1.trans (oX.below HH.out.2.2.1.size (fun k hk=>by rw[hk];exact hA)))
     clear oX CN
     go_wp2_with fail
     refine bodyPost_ret (v:=.tuple #[.slice none 0 0,.int .i64 (er:Int),.int .i64 ((p:Int)+(rel:Int))]) (by simp[results,Tryz.results8,go_sem]) rfl ⟨?_,BX.out.trans (Below.mono (ext_alloc (ext_refl _) _) BX.out.size)⟩
     rw[HN.out]
     exact⟨none,0,by rw[show ((p+rel:Nat):Int)=(p:Int)+(rel:Int) by omega]⟩
    | tok kd n st used =>
     rw[h1] at CN
     have hu:=one_used h1
     rw[List.length_drop,hsl] at hu
     rw[hd] at h1
     have hstep:=lexL_tok hbl h1 p L.length
     have hdr:(b :: s.data.toList.drop (p+1)).drop used=s.data.toList.drop (p+used):=by rw[← hd,List.drop_drop]
     rw[hdr,← hd] at hstep
     have hkd:=one_kind h1
     have hk0:((kd:Int) == 0)=false:=by rw[beq_eq_false_iff_ne];omega
     by_cases h400:L.length=400
     ·rw[if_pos h400] at hstep
      have HN:=zH (show r=.err 5 p by rw[hrp,hstep];rfl)
      have h5:((L.length:Int) == 400)=true:=by rw[h400];rfl
      clear hrp hd h1 hbl hstep hdr h400 hkd
      go_wp2_with fail
      refine (CN.out).mono ?_
      rintro e X ⟨⟨rfl,-⟩,oX⟩
      have BX:=zH (HH.out.2.2.1.trans (oX.below HH.out.2.2.1.size (fun k hk=>by rw[hk];exact hA)))
      clear oX CN
      go_upto_region 11 with fail
      obtain⟨Y,hY⟩:∃ Y,Y=X.alloc (.cells #[.int .i64 (kd:Int),.int .i64 (n:Int),.int .i64 (p:Int),.string (bsB st)] 55):=⟨_,rfl⟩
      have y2:Y.cell? ⟨X.heap.size,2,none⟩=some (.int .i64 (p:Int)):=by rw[hY];simp[go_sem]
      have BY:=zH (BX.out.trans (Below.mono (show Below X.heap.size X Y by rw[hY];exact ext_alloc (ext_refl _) _) BX.out.size))
      rw[← hY]
      clear hY
      go_big_quiet (fail)
      go_wp2_with fail
      refine bodyPost_ret (v:=.tuple #[.slice none 0 0,.int .i64 5,.int .i64 (p:Int)]) (by simp[results,Tryz.results8,go_sem]) rfl ⟨?_,ext_drewN BY.out _⟩
      rw[HN.out]
      exact⟨none,0,rfl⟩
     ·rw[if_neg h400] at hstep
      have HN:=zH (show r=(lexL (s.data.toList.drop (p+used)) (p+used) (L++[(⟨kd,n,p,st⟩:Tok)]).length).pre (L++[⟨kd,n,p,st⟩]) by rw[hrp,hstep,push_preL,List.length_append];rfl)
      have h5:((L.length:Int) == 400)=false:=by rw[beq_eq_false_iff_ne];omega
      clear hrp hd h1 hbl hstep hdr hkd
      go_wp2_with fail
      refine (CN.out).mono ?_
      rintro e X ⟨⟨rfl,hRX⟩,oX⟩
      have BX:=HH.out.2.2.1.trans (oX.below HH.out.2.2.1.size (fun k hk=>by rw[hk];exact hA))
      have OX:=HH.out.2.1.kept oX (fun k hk e=>by have:=HH.out.2.1.above e;omega)
      have hsX:w1.heap.size≤X.heap.size:=Nat.le_trans HH.out.2.2.2.2 oX.size
      obtain⟨Y,hY⟩:∃ Y,Y=(X.alloc (.cells #[.int .i64 (kd:Int),.int .i64 (n:Int),.int .i64 (p:Int),.string (bsB st)] 55)).alloc (.cells #[.int .i64 (kd:Int),.int .i64 (n:Int),.int .i64 (p:Int),.string (bsB st)] 55):=⟨_,rfl⟩
      have hbY:Below X.heap.size X Y:=by rw[hY];(repeat (first | exact ext_refl _ | assumption |(refine ext_alloc ?_ _) |(refine ext_drewN ?_ _) | refine ext_drew ?_ |(refine ext_set (by first |(simp;done) |(simp;omega)) _ ?_) |(refine ext_trans ?_ (by assumption))))
      have OO:=zH (OX.later hbY)
      have HE:=zH (And.intro (hRX.on hbY) (And.intro (show Below w.heap.size w Y from BX.trans (hbY.mono BX.size)) (Nat.le_trans hsX hbY.size)))
      have HR1:Hid (ArrA 0 (X.heap.size+1+1) (some ⟨X.heap.size+1,0,none⟩) 4 [(⟨kd,n,p,st⟩:Tok)] (fun g o r=>∀ (k:Nat) u,(tokCell r)[k]?=some u→Y.cell? ⟨g,o+k,none⟩=some u)):=zH (by rw[hY];exact one_block tokCell_len _ _ _ rfl _ (by simp))
      have HXX:=zH hY
      clear oX CN BX OX hRX hbY hY hsX
      go_wp2_with (at_builtin;rw[← HXX.out];refine wp_append_flat rfl _ _ 47 55 rfl Tryz.underlying47 _ 40 Tryz.infoTokL rfl (by omega) tokCell_len tokCell_one w1.heap.size _ L rfl OO.out _ _ _ [(⟨kd,n,p,st⟩:Tok)] rfl rfl 0 (X.heap.size+1+1) HR1.out ?l1 ?l2 HE.out.2.2 ?_)
      case l1=>unfold maxLen;simp;omega
      case l2=>show (L.length+1)*40≤140737488355328;omega
      intro v3 w3 O3 b3 o3
      obtain⟨q3,c3,rfl,-⟩:=O3.arr tokCell_len
      have R3:RD w3 A S K m s (p+used):=HE.out.1.own b3 hAl HS3.out
      have hat3:atOf w3 A=p+used:=R3.atOf
      have NX:=zH (And.intro R3 (And.intro O3 (And.intro (HE.out.2.1.trans (b3.mono hs1)) (And.intro HN.out (Nat.le_trans HE.out.2.2 b3.size)))))
      clear O3 b3 o3 OO HE HR1 HXX R3
      go_wp2_with fail
      go_roundw
      case rel=>exact⟨p+used,L++[⟨kd,n,p,st⟩],by omega,by rw[List.length_append];simp;omega,NX⟩
      case measure=>rw[hat3];omega
   ·rw[if_neg hlt] at ho
    subst ho
    have hpe:p=s.size:=by omega
    have HN:=zH (show r=.ok L by rw[hrp,List.drop_eq_nil_of_le (by rw[hsl];omega)];show Res.ok (L++[])=_;rw[List.append_nil])
    clear hrp hp hlt hpe
    go_wp2_with fail
    refine (CN.out).mono ?_
    rintro e X ⟨rfl,oX⟩
    have BX:=zH (HH.out.2.2.1.trans (oX.below HH.out.2.2.1.size (fun k hk=>by rw[hk];exact hA)))
    have OX:=zH (((HH.out.2.1.kept oX (fun k hk e=>by have:=HH.out.2.1.above e;omega)).later (ext_alloc (ext_refl _) (.cells #[.int .i64 0,.int .i64 0,.int .i64 0,.string ⟨#[]⟩] 55))).base_le hs1)
    clear oX CN
    go_wp2_with fail
    refine bodyPost_ret (v:=.tuple #[.slice q L.length c,.int .i64 0,.int .i64 0]) (by simp[results,Tryz.results8,go_sem]) rfl ⟨?_,BX.out.trans (Below.mono (ext_alloc (ext_refl _) _) BX.out.size)⟩
    rw[HN.out]
    exact⟨q,c,rfl,OX.out⟩
theorem lexC:LexC where
 good s _ w hG _ hr:=(llex_any s w hG _ hr).mono fun _ _ h=>⟨h.1,h.2⟩
 bad s _ _ w hG _ hr:=(llex_any s w hG _ hr).mono fun _ _ h=>⟨h.1,h.2⟩
end Go.Proofs.YtapbglhjamddbaaGreatDoor
