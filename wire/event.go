package wire

import (
	"strings"

	"waypost/api"
)

// head is what was read of the head of a request.
type head struct {
	line   api.ReqLine
	fields []api.Field
}

// own returns the head with memory of its own, which each result needs.
func (h head) own() head {
	line := api.ReqLine{Method: strings.Clone(h.line.Method), Target: strings.Clone(h.line.Target)}
	var fields []api.Field
	for _, f := range h.fields {
		fields = append(fields, api.Field{Name: strings.Clone(f.Name), Value: strings.Clone(f.Value)})
	}
	return head{line, fields}
}

// event returns the event of this kind that has the head and nothing else.
func (h head) event(kind int) api.WireEvent {
	own := h.own()
	return api.WireEvent{Kind: kind, Line: own.line, Fields: own.fields}
}

// event is something that a parser tells.
type event interface {
	told() api.WireEvent
}

// lineEvent tells that a request line is there.
type lineEvent struct {
	head
}

func (e lineEvent) told() api.WireEvent {
	return e.event(api.GotLine)
}

// headEvent tells that a whole head is there.
type headEvent struct {
	head
}

func (e headEvent) told() api.WireEvent {
	return e.event(api.GotHead)
}

// requestEvent tells that a whole request is there.
type requestEvent struct {
	head
	body string
}

func (e requestEvent) told() api.WireEvent {
	told := e.event(api.GotRequest)
	told.Body = e.body
	return told
}

// errorEvent tells the status of an error.
type errorEvent struct {
	head
	status int
}

func (e errorEvent) told() api.WireEvent {
	told := e.event(api.Wrong)
	told.Status = e.status
	return told
}

// journal is what a parser told so far.
type journal struct {
	events []api.WireEvent
}

// tell adds events to the journal.
func (j *journal) tell(l ...event) {
	for _, one := range l {
		j.events = append(j.events, one.told())
	}
}
