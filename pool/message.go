package pool

import "legation/api"

// mediator stands for the mediator where endpoints have their places.
const mediator = -1

// right tells whether m is a right message.
func right(m api.Message) bool {
	return isEnd(m.From) && isEnd(m.To) && m.From != m.To && (m.From == mediator || m.To == mediator) && len(m.Bytes) <= api.MaxMessage
}

// isEnd tells whether messages may go there, or come from there.
func isEnd(n int) bool {
	return n >= mediator && n < api.MaxPoints
}
