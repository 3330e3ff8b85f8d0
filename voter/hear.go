package voter

import (
	"tandem/api"
	"tandem/lease"
	"tandem/record"
)

// call is a message that a voter hears, and when: a call that is not told the time does not ask for it.
type call struct {
	api.Msg
	now int
}

// answer is what a voter answers to a message: a message of its own, and whether its meta is another one than it was.
type answer struct {
	api.Msg
	changed bool
}

func (c call) isTimed() bool   { return isTime(c.now) }
func (c call) hasRecord() bool { return isOfTerm(c.Rec, c.Term) }

// rights tells, of each kind of message that a voter hears, what makes it right beside what all of them need.
func rights() map[int]func(call) bool {
	return map[int]func(call) bool{
		api.MsgAsk:  func(c call) bool { return c.isTimed() && c.hasRecord() },
		api.MsgBeat: call.isTimed,
		api.MsgNote: call.hasRecord,
	}
}

// isRight tells whether a message is right for a call that hears this kind.
func (v *Voter) isRight(kind int, c call) bool {
	return c.Kind == kind && isDataNode(c.From) && c.From != v.node && isTerm(c.Term) && rights()[kind](c)
}

// hear lets a voter hear a message of a kind, if it is right.
func (v *Voter) hear(kind int, c call, how func(call) answer) (api.Msg, bool, api.Errno) {
	switch {
	case !v.isMade():
		return api.Msg{}, false, api.ErrNil
	case !v.isRight(kind, c):
		return api.Msg{}, false, api.ErrArg
	}
	a := how(c)
	return a.Msg, a.changed, api.OK
}

// Ask hears a candidate that asks for a vote.
func (v *Voter) Ask(m api.Msg, now int) (api.Msg, bool, api.Errno) {
	return v.hear(api.MsgAsk, call{m, now}, v.vote)
}

// Beat hears a primary that renews its lease.
func (v *Voter) Beat(m api.Msg, now int) (api.Msg, bool, api.Errno) {
	return v.hear(api.MsgBeat, call{m, now}, v.obey)
}

// Note hears a primary that lets a record be kept.
func (v *Voter) Note(m api.Msg) (api.Msg, bool, api.Errno) {
	return v.hear(api.MsgNote, call{Msg: m}, v.keep)
}

// mayVote tells whether a candidate may have the vote.
func (v *Voter) mayVote(c call) bool {
	switch {
	case c.Term < v.meta.Term, lease.Bars(v.promise, c.From, c.now):
		return false
	case c.Term == v.meta.Term && v.meta.Vote != api.None && v.meta.Vote != c.From:
		return false
	}
	return record.May(c.Rec, c.From, v.meta.Rec)
}

// vote gives a candidate the vote, or refuses it.
func (v *Voter) vote(c call) (a answer) {
	was, given := v.meta, v.mayVote(c)
	defer func() {
		a = answer{
			Kind: api.MsgGrant, From: v.node, Term: v.meta.Term, Stamp: c.Stamp, Rec: v.meta.Rec, OK: given,
			changed: v.meta != was,
		}
	}()
	if given {
		v.meta.Term, v.meta.Vote = c.Term, c.From
		v.pledge(c.From, c.now)
	}
	return
}

// obey obeys a primary, or refuses it.
func (v *Voter) obey(c call) (a answer) {
	was, obeyed := v.meta, c.Term >= v.meta.Term
	defer func() {
		a = answer{
			Kind: api.MsgBeatAck, From: v.node, Term: v.meta.Term, Stamp: c.Stamp, OK: obeyed,
			changed: v.meta != was,
		}
	}()
	if obeyed {
		v.rise(c.Term, c.From)
		v.pledge(c.From, c.now)
	}
	return
}

// keep keeps a primary's record, if it is newer, or refuses it.
func (v *Voter) keep(c call) (a answer) {
	was, obeyed := v.meta, c.Term >= v.meta.Term
	defer func() {
		a = answer{
			Kind: api.MsgNoteAck, From: v.node, Term: v.meta.Term, Rec: v.meta.Rec, OK: obeyed && v.meta.Rec == c.Rec,
			changed: v.meta != was,
		}
	}()
	if obeyed {
		v.rise(c.Term, c.From)
		v.learn(c.Rec)
	}
	return
}
